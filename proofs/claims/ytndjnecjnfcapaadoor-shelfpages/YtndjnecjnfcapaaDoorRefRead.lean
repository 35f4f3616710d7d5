/- The document's read, called with a text, a place and a list of widths that fit the text there, tells the numbers, and changes nothing that was there; and sized. -/
import Derived.Test.YtndjnecjnfcapaaDoorRefGet
import Derived.Test.YtndjnecjnfcapaaDoorZero
import Derived.Laws.Rows
import Derived.Deep.RegionHeld3
namespace Go.Proofs.YtndjnecjnfcapaaDoor
set_option maxRecDepth 20000
open Go.RowKit Go.Lib

theorem sized_any (s : ByteArray) (n : Nat) (w : World) :
    Calls Tryd.prog 37 #[.string s, .int .i64 n] w fun e w' => e = .returned (.int .i64 (if n < s.size then 4 else if s.size < n then 3 else 0)) ∧ w' = w := by
  by_cases h1 : n < s.size
  · have i1 : (n : Int) < s.size := by omega
    go_enter Tryd.func37, Tryd.ntmps37
    go_wp2
    go_ret
    exact ⟨rfl, rfl⟩
  have i1 : ¬ (n : Int) < s.size := by omega
  by_cases h2 : s.size < n
  · have i2 : (s.size : Int) < n := by omega
    go_enter Tryd.func37, Tryd.ntmps37
    go_wp2
    go_ret
    exact ⟨rfl, rfl⟩
  have i2 : ¬ (s.size : Int) < n := by omega
  go_enter Tryd.func37, Tryd.ntmps37
  go_wp2
  go_ret
  exact ⟨rfl, rfl⟩

theorem infoInt : (Tryd.prog.info? 3).map (fun i => (i.zero, i.size, i.bytes)) = some (some (.int .i64 0), 1, 8) := by kernel_rfl

/-- The numbers of a text from a place on, in their widths. -/
def readL (s : ByteArray) : Nat → List Nat → List Int
  | _, [] => []
  | a, k :: r => leVal ((s.data.toList.drop a).take k) :: readL s (a + k) r
theorem readL_length (s : ByteArray) : ∀ (ws : List Nat) (a : Nat), (readL s a ws).length = ws.length
  | [], _ => rfl
  | k :: r, a => by simp [readL, readL_length s r]
theorem readL_take (s : ByteArray) : ∀ (ws : List Nat) (a j : Nat) (h : j < ws.length), readL s a (ws.take (j + 1)) = readL s a (ws.take j) ++ [leVal ((s.data.toList.drop (a + (ws.take j).sum)).take ws[j])]
  | k :: r, a, 0, _ => by simp [readL]
  | k :: r, a, j + 1, h => by
    have ih := readL_take s r (a + k) j (by simpa using h)
    rw [List.take_succ_cons, List.take_succ_cons, readL, readL, ih]
    simp [Nat.add_assoc]
theorem sum_take (ws : List Nat) (j : Nat) (h : j < ws.length) : (ws.take (j + 1)).sum = (ws.take j).sum + ws[j] := by
  rw [List.take_succ_eq_append_getElem h, List.sum_append, List.sum_singleton]
theorem sum_take_le (ws : List Nat) (j : Nat) : (ws.take j).sum ≤ ws.sum := by
  have := congrArg List.sum (List.take_append_drop j ws)
  rw [List.sum_append] at this
  omega

set_option maxHeartbeats 1000000 in
theorem rread_any (s : ByteArray) (hs : s.size ≤ 4096) (a : Nat) (ws : List Nat) (hk : ∀ i (h : i < ws.length), 1 ≤ ws[i] ∧ ws[i] ≤ 6) (hf : a + ws.sum ≤ s.size) (n : Nat) (hn : ws.length = n) (hn2 : n ≤ 1000) (bb cb : Nat) (w : World) (hbb : bb < w.heap.size)
    (hcb : ∀ i (h : i < ws.length), w.cell? ⟨bb, i, none⟩ = some (.int .i64 (ws[i] : Nat))) :
    Calls Tryd.prog 39 #[.string s, .int .i64 a, .slice (some ⟨bb, 0, none⟩) n cb] w fun e w' =>
      ∃ v, e = .returned v ∧ w'.ownsRow w.heap.size 3 1 v n ((readL s a ws).map (Value.int .i64)) ∧ Below w.heap.size w w' := by
  have HCB : Hid (∀ i (h : i < ws.length), w.cell? ⟨bb, i, none⟩ = some (.int .i64 (ws[i] : Nat))) := hcb
  have HK : Hid (∀ i (h : i < ws.length), 1 ≤ ws[i] ∧ ws[i] ≤ 6) := hk
  have HF : Hid (a + ws.sum ≤ s.size) := hf
  have HN : Hid (ws.length = n) := hn
  clear hcb hk hf hn
  obtain ⟨i0, hi, hz0, hz1, hz2⟩ := info_parts infoInt
  go_enter Tryd.func39, Tryd.ntmps39
  go_wp2
  go_loopw [1, 7, 8] (fun p v i wr => ∃ j : Nat, j ≤ n ∧ i = .int .i64 j ∧ p = .int .i64 ((a + (ws.take j).sum : Nat) : Int) ∧ wr.ownsRow w.heap.size 3 1 v j ((readL s a (ws.take j)).map (Value.int .i64)) ∧ Below w.heap.size w wr) (fun _ _ i _ => n - (intOf i).toNat)
  case atStart => exact ⟨0, Nat.zero_le _, rfl, by simp, World.ownsRow_nil _ _ _ _, Below.refl _ _⟩
  case round =>
    obtain ⟨j, hj, rfl, rfl, hown, hb⟩ := hrel
    by_cases hlt : j < n
    · have hjl : j < ws.length := by rw [HN.out]; exact hlt
      obtain ⟨k, hkj⟩ : ∃ k, k = ws[j] := ⟨_, rfl⟩
      obtain ⟨q, hq⟩ : ∃ q, q = a + (ws.take j).sum := ⟨_, rfl⟩
      have c2 : wr.cell? ⟨bb, j, none⟩ = some (.int .i64 k) := by rw [hkj]; exact (hb.cell (p := ⟨bb, j, none⟩) hbb).trans (HCB.out j hjl)
      have hk1 := HK.out j hjl
      rw [← hkj] at hk1
      have hfit : q + k ≤ s.size := by
        have h1 := sum_take ws j hjl
        have h2 := sum_take_le ws (j + 1)
        have h3 := HF.out
        rw [← hkj] at h1
        omega
      have HX : Hid (k = ws[j] ∧ q = a + (ws.take j).sum) := ⟨hkj, hq⟩
      rw [← hq]
      clear hkj hq
      have i1 : (0 : Int) ≤ (j : Int) := by omega
      have i2 : (j : Int) < (n : Int) := by omega
      go_wp2_with fail
      refine (rget_ok s q k hk1.1 hk1.2 (by unfold maxLen; omega) hfit _).mono ?_
      rintro e w' ⟨rfl, rfl⟩
      obtain ⟨x, hx⟩ : ∃ x, x = leVal ((s.data.toList.drop q).take k) := ⟨_, rfl⟩
      rw [← hx]
      have HV : Hid (x = leVal ((s.data.toList.drop q).take k)) := hx
      clear hx
      go_wp2_with (at_builtin; refine wpList_append_own _ rfl _ _ 61 rfl w.heap.size 3 i0 (.int .i64 0) 1 8 Tryd.underlying61 hi hz0 hz1 hz2 rfl (by decide) _ _ _ rfl (hown.alloc _) ⟨w'.heap.size, 0, none⟩ 1 1 [.int .i64 x] rfl rfl ?c1 ?c2 ?c3 ?c4 ?c5 ?_)
      case c1 => intro i u hi; match i, hi with | 0, hi => simp at hi; subst hi; simp [Addr.add]
      case c2 => intro u hu; simp at hu; subst hu; rfl
      case c3 => unfold maxLen; omega
      case c4 => omega
      case c5 => have := hb.size; simp; omega
      intro v' w2 hown' hgrow _
      have hb2 : Below w.heap.size w w2 := (hb.alloc hb.size _).grown hgrow (by have := hb.size; simp; omega) (fun g hg => by
        rcases hown.2 with ⟨rfl, _⟩ | ⟨g', cap, cur, rfl, hg', _⟩
        · simp [Value.ownBlock] at hg
        · simp [Value.ownBlock] at hg; omega)
      clear c2 hown hgrow hb
      have c2 : w2.cell? ⟨bb, j, none⟩ = some (.int .i64 k) := by rw [HX.out.1]; exact (hb2.cell (p := ⟨bb, j, none⟩) hbb).trans (HCB.out j hjl)
      go_wp2
      go_roundw
      case rel =>
        refine ⟨j + 1, by omega, by go_num, ?_, ?_, hb2⟩
        · rw [sum_take ws j hjl, ← HX.out.1, ← Nat.add_assoc, ← HX.out.2]; go_num
        · rw [readL_take s ws a j hjl, List.map_append, ← HX.out.1, ← HX.out.2, ← HV.out]; exact hown'
      case measure => simp [intOf]; omega
    · obtain rfl : j = n := by omega
      have HT : Hid (ws.take j = ws) := List.take_of_length_le (by rw [HN.out]; exact Nat.le_refl _)
      go_wp2
      go_ret
      rw [HT.out] at hown
      exact ⟨_, rfl, hown, hb⟩
end Go.Proofs.YtndjnecjnfcapaaDoor
