/- strings.Clone, called with any text of at most 4096 bytes, tells the text, and changes nothing that was there. -/
import Derived.Test.YtlcadhojfnanfaaDoorPut
import Derived.Lib.BufferWrite
import Derived.Lib.UnsafeStr
namespace Go.Proofs.YtlcadhojfnanfaaDoor
set_option maxRecDepth 20000
open Go.RowKit

theorem bytes_row {w : World} {g : Nat} {s : ByteArray} {Y : Array Value} {t : TypeId} (h : w.heap[g]? = some (.cells Y t (0, 0))) (hY : Y.toList = Lib.byteCells s.data.toList) (j : Nat) (x : UInt8) (hx : s.data.toList[j]? = some x) :
    w.cell? ((⟨g, 0, none⟩ : Addr).add j) = some (.int .u8 x.toNat) :=
  Lib.cells_of_row h Y.toList.length j _ (by rw [List.take_length, hY, Lib.byteCells, List.getElem?_map, hx]; rfl)

set_option maxHeartbeats 1000000 in
theorem slClone_any (s : ByteArray) (hs : s.size ≤ 4096) (w : World) :
    Calls Tryd.prog 26 #[.string s] w fun e w' => e = .returned (.string s) ∧ Below w.heap.size w w' := by
  by_cases h0 : s.size = 0
  · obtain rfl : s = ByteArray.empty := by simpa using h0
    go_enter Tryd.func26, Tryd.ntmps26
    go_wp2
    go_ret
    exact ⟨rfl, Below.refl _ _⟩
  obtain ⟨i0, hi, hz0, hz1, hz2⟩ := info_parts info5
  have i1 : ¬ (s.size : Int) = 0 := by omega
  have i1' : ((s.size : Int) == 0) = false := by simpa using h0
  go_enter Tryd.func26, Tryd.ntmps26
  go_wp2_with (at_make; refine wpList_make_full _ rfl _ _ 46 rfl w.heap.size 5 i0 (.int .u8 0) 1 Tryd.underlying46 hi hz0 hz1 .i64 .i64 _ _ s.size rfl rfl rfl rfl ?c1 ?c2 (Nat.le_refl _) ?_)
  case c1 => first | omega | (rw [hz2]; omega)
  case c2 => unfold maxLen; omega
  intro w1 hown hgrow
  have hb1 : Below w.heap.size w w1 := (Below.refl _ _).grown hgrow (Nat.le_refl _) (fun k hk => by simp at hk)
  rcases hown.2 with ⟨h', _⟩ | ⟨g, cap, cur, h', _, hg, _, _, hsz, _⟩
  · simp at h'
  simp only [Value.slice.injEq, Option.some.injEq, Addr.mk.injEq, and_true, true_and] at h'
  obtain ⟨rfl, rfl⟩ := h'
  rw [Nat.mul_one] at hsz
  clear hown hgrow
  have hcp := Lib.run_copy_row_string (P := Tryd.prog) w1 46 9 3 5 w.heap.size 0 s.size s.size s cur 5 Tryd.underlying46 (by kernel_rfl) hg (Nat.le_refl _) (by omega)
  obtain ⟨Y, hY⟩ : ∃ Y, Y = (cur.toList.take 0 ++ Lib.byteCells s.data.toList ++ cur.toList.drop (0 + s.size)).toArray := ⟨_, rfl⟩
  rw [← hY] at hcp
  have hYl : Y.toList = Lib.byteCells s.data.toList := by
    rw [hY, List.toList_toArray, List.take_zero, List.nil_append, List.drop_of_length_le (by rw [Array.length_toList]; omega), List.append_nil]
  have hYs : Y.size = s.size := by rw [← Array.length_toList, hYl, Lib.byteCells_length, ← Lib.size_eq]
  have hgY := setRow_heap w1 w.heap.size cur Y 5 (0, 0) hg
  have hb2 : Below w.heap.size w (w1.setRow w.heap.size Y) := hb1.trans ⟨rfl, rfl, rfl, by simp [World.setRow], fun k hk => setRow_other _ _ _ _ (by omega)⟩
  have hus := Lib.run_unsafeString_row (P := Tryd.prog) (w1.setRow w.heap.size Y) 64 3 9 5 Tryd.underlying64 (by kernel_rfl) w.heap.size Y.size (by unfold World.shape?; rw [hgY]) s.data.toList (fun e => h0 (by rw [Lib.size_eq, e]; rfl)) (by rw [← Lib.size_eq]; omega) (by rw [← Lib.size_eq]; omega)
    (fun j x hx => bytes_row hgY hYl j x hx)
  rw [← Lib.size_eq] at hus
  clear hY hYl hgY hg
  go_wp2
  go_ret
  exact ⟨rfl, Lib.below_freeze hb2 (p := ⟨w.heap.size, 0, none⟩) (Nat.le_refl _) _⟩

theorem clone_any (s : ByteArray) (hs : s.size ≤ 4096) (w : World) :
    Calls Tryd.prog 21 #[.string s] w fun e w' => e = .returned (.string s) ∧ Below w.heap.size w w' := by
  go_enter Tryd.func21, Tryd.ntmps21
  go_wp2_with fail
  refine (slClone_any s hs _).mono ?_
  rintro e w1 ⟨rfl, hb1⟩
  go_wp2
  go_ret
  exact ⟨rfl, hb1⟩
end Go.Proofs.YtlcadhojfnanfaaDoor
