/- The document's laid, called with two lists of as many numbers (at most 1000, of type int), tells the bytes of the numbers in their widths, or that one has no room, and changes nothing that was there. -/
import Derived.Test.YtndjnecjnfcapaaDoorWrMath
import Derived.Test.YtndjnecjnfcapaaDoorRefPut
import Derived.Deep.RegionHeld3
namespace Go.Proofs.YtndjnecjnfcapaaDoor
set_option maxRecDepth 20000
open Go.RowKit Go.Lib

theorem laidOk_take : ∀ (ps : List (Int × Int)) (j : Nat) (h : j < ps.length), laidOk (ps.take (j + 1)) = (laidOk (ps.take j) && (putE ps[j].1 ps[j].2 == 0))
  | p :: r, 0, _ => by simp [laidOk]
  | p :: r, j + 1, h => by
    have ih := laidOk_take r j (by simpa using h)
    rw [List.take_succ_cons, List.take_succ_cons, laidOk, laidOk, ih]
    simp [Bool.and_assoc]
theorem laidL_take (ps : List (Int × Int)) (j : Nat) (h : j < ps.length) : laidL (ps.take (j + 1)) = laidL (ps.take j) ++ (putS ps[j].1 ps[j].2).data.toList := by
  rw [List.take_succ_eq_append_getElem h, laidL_append]
  simp [laidL]
theorem laidOk_stop : ∀ (ps : List (Int × Int)) (j : Nat) (h : j < ps.length), (putE ps[j].1 ps[j].2 != 0) = true → laidOk ps = false
  | p :: r, 0, _, e => by simp [laidOk] at e ⊢; intro h; exact absurd h e
  | p :: r, j + 1, h, e => by
    have := laidOk_stop r j (by simpa using h) (by simpa using e)
    simp [laidOk, this]

def laidS (ps : List (Int × Int)) : ByteArray := if laidOk ps = true then ⟨(laidL ps).toArray⟩ else ByteArray.empty
theorem laidS_ok {ps : List (Int × Int)} (h : laidOk ps = true) : laidS ps = ⟨(laidL ps).toArray⟩ := by simp [laidS, h]
theorem laidS_no {ps : List (Int × Int)} (h : laidOk ps = false) : laidS ps = ByteArray.empty := by simp [laidS, h]
theorem rec_text (pre : ByteArray) (l : List UInt8) (z : Nat) : pre ++ ⟨l.toArray⟩ ++ noughtsS z = ⟨(pre.data.toList ++ l ++ List.replicate z 0).toArray⟩ := by
  rw [pad_append]
  congr 1

set_option maxHeartbeats 1000000 in
theorem rlaid_any (ps : List (Int × Int)) (n : Nat) (hn : ps.length = n) (hn2 : n ≤ 1000) (ba bb ca cb : Nat) (w : World) (hba : ba < w.heap.size) (hbb : bb < w.heap.size)
    (hca : ∀ i (h : i < ps.length), w.cell? ⟨ba, i, none⟩ = some (.int .i64 ps[i].1)) (hcb : ∀ i (h : i < ps.length), w.cell? ⟨bb, i, none⟩ = some (.int .i64 ps[i].2))
    (hm : ∀ i (h : i < ps.length), ps[i].1 ≤ 9223372036854775807) :
    Calls Tryd.prog 46 #[.slice (some ⟨ba, 0, none⟩) n ca, .slice (some ⟨bb, 0, none⟩) n cb] w fun e w' =>
      e = .returned (.tuple #[.string (laidS ps), .bool (laidOk ps)]) ∧ Below w.heap.size w w' := by
  have HCA : Hid (∀ i (h : i < ps.length), w.cell? ⟨ba, i, none⟩ = some (.int .i64 ps[i].1)) := hca
  have HCB : Hid (∀ i (h : i < ps.length), w.cell? ⟨bb, i, none⟩ = some (.int .i64 ps[i].2)) := hcb
  have HM : Hid (∀ i (h : i < ps.length), ps[i].1 ≤ 9223372036854775807) := hm
  have HN : Hid (ps.length = n) := hn
  clear hca hcb hm hn
  go_enter Tryd.func46, Tryd.ntmps46
  go_wp2
  go_loopw [6, 7] (fun s i wr => ∃ j : Nat, j ≤ n ∧ i = .int .i64 j ∧ s = .string ⟨(laidL (ps.take j)).toArray⟩ ∧ laidOk (ps.take j) = true ∧ Below w.heap.size w wr) (fun _ i _ => n - (Go.RowKit.intOf i).toNat)
  case atStart => exact ⟨0, Nat.zero_le _, rfl, by simp [laidL], rfl, Below.refl _ _⟩
  case round =>
    obtain ⟨j, hj, rfl, rfl, hok, hb⟩ := hrel
    have HK : Hid (laidOk (ps.take j) = true) := hok
    clear hok
    by_cases hlt : j < n
    · have hjl : j < ps.length := by rw [HN.out]; exact hlt
      obtain ⟨x, hx⟩ : ∃ x, x = ps[j].1 := ⟨_, rfl⟩
      obtain ⟨k, hk⟩ : ∃ k, k = ps[j].2 := ⟨_, rfl⟩
      have c1 : wr.cell? ⟨ba, j, none⟩ = some (.int .i64 x) := by rw [hx]; exact (hb.cell (p := ⟨ba, j, none⟩) hba).trans (HCA.out j hjl)
      have c2 : wr.cell? ⟨bb, j, none⟩ = some (.int .i64 k) := by rw [hk]; exact (hb.cell (p := ⟨bb, j, none⟩) hbb).trans (HCB.out j hjl)
      have hxm : x ≤ 9223372036854775807 := by rw [hx]; exact HM.out j hjl
      have HX : Hid (x = ps[j].1 ∧ k = ps[j].2) := ⟨hx, hk⟩
      clear hx hk
      have i1 : (0 : Int) ≤ (j : Int) := by omega
      have i2 : (j : Int) < (n : Int) := by omega
      go_wp2
      have hsz := hb.size
      go_region_held3 (fun w' => w'.cell? ⟨ba, j, none⟩ = some (.int .i64 x) ∧ w'.cell? ⟨bb, j, none⟩ = some (.int .i64 k)) (simp [go_sem, *])
        (first | (go_at_call 57; refine (rput_any x k hxm _).mono ?_; rintro e w1 ⟨rfl, hb1⟩; have k1 := (hb1.cell (p := ⟨ba, j, none⟩) (by simp; omega)).trans (by simpa using c1); have k2 := (hb1.cell (p := ⟨bb, j, none⟩) (by simp; omega)).trans (by simpa using c2)))
      have hb2 : Below w.heap.size w w1 := by
        refine Below.trans ?_ (hb1.mono (by simp; omega))
        repeat (first | exact hb | apply Below.drew)
      clear hb1 k1 k2 c1 c2
      have hadd := fun w2 => run_string_add_sum (P := Tryd.prog) (w := w2) ⟨(laidL (ps.take j)).toArray⟩ (putS x k) (by
        have h1 := laidL_le (ps.take j)
        have h2 : (ps.take j).length ≤ j := List.length_take_le _ _
        have h3 : (putS x k).size ≤ 6 := by have := putS_le x k; simpa using this
        have h4 : (⟨(laidL (ps.take j)).toArray⟩ : ByteArray).size = (laidL (ps.take j)).length := by simp [ByteArray.size]
        omega)
      by_cases hz : putE x k = 0
      · have hzb : (putE x k != 0) = false := by rw [hz]; rfl
        have HZ : Hid (putE x k = 0) := hz
        clear hz
        go_wp2
        go_roundw
        case rel =>
          refine ⟨j + 1, by omega, by go_num, ?_, ?_, hb2⟩
          · rw [laidL_take ps j hjl, ← HX.out.1, ← HX.out.2]
            congr 1
          · rw [laidOk_take ps j hjl, HK.out, ← HX.out.1, ← HX.out.2, HZ.out]; rfl
        case measure => simp [Go.RowKit.intOf]; omega
      · have hzb : (putE x k != 0) = true := by simpa using hz
        have HL : Hid (laidOk ps = false) := laidOk_stop ps j hjl (by rw [← HX.out.1, ← HX.out.2]; exact hzb)
        clear hz
        go_wp2
        go_ret2
        refine ⟨?_, hb2⟩
        unfold laidS
        rw [HL.out]
        rfl
    · have hjn : j = n := by omega
      subst hjn
      have HT : Hid (ps.take j = ps) := List.take_of_length_le (by rw [HN.out]; exact Nat.le_refl _)
      go_wp2
      go_ret2
      refine ⟨?_, hb⟩
      have hok := HK.out
      rw [HT.out] at hok
      unfold laidS
      rw [if_pos hok, hok]
      show Ending.returned (.tuple #[.string ⟨(laidL (ps.take j)).toArray⟩, .bool true]) = _
      rw [HT.out]

theorem cells_of_block {w : World} {b : Nat} {xs : List Int} {t : TypeId} (h : w.heap[b]? = some (.cells (xs.map (Value.int .i64)).toArray t (0, 0))) (i : Nat) (hi : i < xs.length) : w.cell? ⟨b, i, none⟩ = some (.int .i64 xs[i]) := by
  simp [World.cell?, h, hi]
/-- The same, the lists' cells told by their blocks. -/
theorem rlaid_blk (ps : List (Int × Int)) (n : Nat) (hn : ps.length = n) (hn2 : n ≤ 1000) (ba bb ca cb : Nat) (w : World) (ta tb : TypeId)
    (hA : w.heap[ba]? = some (.cells ((ps.map (·.1)).map (Value.int .i64)).toArray ta (0, 0))) (hB : w.heap[bb]? = some (.cells ((ps.map (·.2)).map (Value.int .i64)).toArray tb (0, 0)))
    (hm : ∀ p ∈ ps, p.1 ≤ 9223372036854775807) :
    Calls Tryd.prog 46 #[.slice (some ⟨ba, 0, none⟩) n ca, .slice (some ⟨bb, 0, none⟩) n cb] w fun e w' =>
      e = .returned (.tuple #[.string (laidS ps), .bool (laidOk ps)]) ∧ Below w.heap.size w w' :=
  rlaid_any ps n hn hn2 ba bb ca cb w (lt_of_block hA) (lt_of_block hB)
    (fun i h => by have := cells_of_block hA i (by simpa using h); simpa using this) (fun i h => by have := cells_of_block hB i (by simpa using h); simpa using this) (fun i h => hm _ (List.getElem_mem h))
theorem below1 (w : World) (o1 : Obj) : Below w.heap.size w (w.alloc o1) := (Below.refl _ _).alloc (Nat.le_refl _) _
theorem below2 (w : World) (o1 o2 : Obj) : Below w.heap.size w ((w.alloc o1).alloc o2) := (below1 w o1).alloc (by simp) _
theorem below3 (w : World) (o1 o2 o3 : Obj) : Below w.heap.size w (((w.alloc o1).alloc o2).alloc o3) := (below2 w o1 o2).alloc (by simp; omega) _
theorem heap3_1 (w : World) (o1 o2 o3 : Obj) : (((w.alloc o1).alloc o2).alloc o3).heap[w.heap.size + 1]? = some o2 := by
  rw [Below.heap_alloc _ _ _ (by simp)]
  have := heap_alloc_new (w.alloc o1) o2
  rwa [World.size_alloc] at this
theorem heap3_2 (w : World) (o1 o2 o3 : Obj) : (((w.alloc o1).alloc o2).alloc o3).heap[w.heap.size + 1 + 1]? = some o3 := by
  have := heap_alloc_new ((w.alloc o1).alloc o2) o3
  rwa [World.size_alloc, World.size_alloc] at this
end Go.Proofs.YtndjnecjnfcapaaDoor
