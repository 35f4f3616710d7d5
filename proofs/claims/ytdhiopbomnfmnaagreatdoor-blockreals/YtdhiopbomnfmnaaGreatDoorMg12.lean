/- The document's laid, called with two lists of as many numbers (at most 1000, of type int), tells the bytes of the numbers in their widths, or that one has no room, and changes nothing that was there. · The document's widths of a head's numbers. · The document's Head, called with any head, tells the bytes and the error of its numbers in their widths, and changes nothing that was there. · The document's vault, the ideal one: Seal, Open. -/
import Derived.Test.YtdhiopbomnfmnaaGreatDoorMg07
import Derived.Test.YtdhiopbomnfmnaaGreatDoorMg05
import Derived.Deep.RegionHeld3
import Derived.Test.YtdhiopbomnfmnaaGreatDoorMg01
import Derived.Deep.Cut
import Derived.Test.YtdhiopbomnfmnaaGreatDoorMg06
namespace Go.Proofs.YtdhiopbomnfmnaaGreatDoor
set_option maxRecDepth 20000
open Go.RowKit Go.Lib

theorem laidOk_take : ∀ (ps : List (Int × Int)) (j : Nat) (h : j < ps.length), laidOk (ps.take (j + 1)) = (laidOk (ps.take j) && (putE ps[j].1 ps[j].2 == 0))
  | p :: r, 0, _ => by simp [laidOk]
  | p :: r, j + 1, h => by
    have ih := laidOk_take r j (by simpa using h)
    rw [List.take_succ_cons, List.take_succ_cons, laidOk, laidOk, ih]
    simp [Bool.and_assoc]
theorem laidL_take (ps : List (Int × Int)) (j : Nat) (h : j < ps.length) : laidL (ps.take (j + 1)) = laidL (ps.take j) ++ (putS ps[j].1 ps[j].2).data.toList := by
  rw [List.take_succ_eq_append_getElem h, laidL_append]
  simp [laidL]
theorem laidOk_stop : ∀ (ps : List (Int × Int)) (j : Nat) (h : j < ps.length), (putE ps[j].1 ps[j].2 != 0) = true → laidOk ps = false
  | p :: r, 0, _, e => by simp [laidOk] at e ⊢; intro h; exact absurd h e
  | p :: r, j + 1, h, e => by
    have := laidOk_stop r j (by simpa using h) (by simpa using e)
    simp [laidOk, this]

def laidS (ps : List (Int × Int)) : ByteArray := if laidOk ps = true then ⟨(laidL ps).toArray⟩ else ByteArray.empty
theorem laidS_ok {ps : List (Int × Int)} (h : laidOk ps = true) : laidS ps = ⟨(laidL ps).toArray⟩ := by simp [laidS, h]
theorem laidS_no {ps : List (Int × Int)} (h : laidOk ps = false) : laidS ps = ByteArray.empty := by simp [laidS, h]
theorem rec_text (pre : ByteArray) (l : List UInt8) (z : Nat) : pre ++ ⟨l.toArray⟩ ++ noughtsS z = ⟨(pre.data.toList ++ l ++ List.replicate z 0).toArray⟩ := by
  rw [pad_append]
  congr 1

set_option maxHeartbeats 1000000 in
theorem rlaid_any (ps : List (Int × Int)) (n : Nat) (hn : ps.length = n) (hn2 : n ≤ 1000) (ba bb ca cb : Nat) (w : World) (hba : ba < w.heap.size) (hbb : bb < w.heap.size)
    (hca : ∀ i (h : i < ps.length), w.cell? ⟨ba, i, none⟩ = some (.int .i64 ps[i].1)) (hcb : ∀ i (h : i < ps.length), w.cell? ⟨bb, i, none⟩ = some (.int .i64 ps[i].2))
    (hm : ∀ i (h : i < ps.length), ps[i].1 ≤ 9223372036854775807) :
    Calls Tryz.prog 36 #[.slice (some ⟨ba, 0, none⟩) n ca, .slice (some ⟨bb, 0, none⟩) n cb] w fun e w' =>
      e = .returned (.tuple #[.string (laidS ps), .bool (laidOk ps)]) ∧ Below w.heap.size w w' := by
  have HCA : Hid (∀ i (h : i < ps.length), w.cell? ⟨ba, i, none⟩ = some (.int .i64 ps[i].1)) := hca
  have HCB : Hid (∀ i (h : i < ps.length), w.cell? ⟨bb, i, none⟩ = some (.int .i64 ps[i].2)) := hcb
  have HM : Hid (∀ i (h : i < ps.length), ps[i].1 ≤ 9223372036854775807) := hm
  have HN : Hid (ps.length = n) := hn
  clear hca hcb hm hn
  go_enter Tryz.func36, Tryz.ntmps36
  go_wp2
  go_loopw [6, 7] (fun s i wr => ∃ j : Nat, j ≤ n ∧ i = .int .i64 j ∧ s = .string ⟨(laidL (ps.take j)).toArray⟩ ∧ laidOk (ps.take j) = true ∧ Below w.heap.size w wr) (fun _ i _ => n - (Go.RowKit.intOf i).toNat)
  case atStart => exact ⟨0, Nat.zero_le _, rfl, by simp [laidL], rfl, Below.refl _ _⟩
  case round =>
    obtain ⟨j, hj, rfl, rfl, hok, hb⟩ := hrel
    have HK : Hid (laidOk (ps.take j) = true) := hok
    clear hok
    by_cases hlt : j < n
    · have hjl : j < ps.length := by rw [HN.out]; exact hlt
      obtain ⟨x, hx⟩ : ∃ x, x = ps[j].1 := ⟨_, rfl⟩
      obtain ⟨k, hk⟩ : ∃ k, k = ps[j].2 := ⟨_, rfl⟩
      have c1 : wr.cell? ⟨ba, j, none⟩ = some (.int .i64 x) := by rw [hx]; exact (hb.cell (p := ⟨ba, j, none⟩) hba).trans (HCA.out j hjl)
      have c2 : wr.cell? ⟨bb, j, none⟩ = some (.int .i64 k) := by rw [hk]; exact (hb.cell (p := ⟨bb, j, none⟩) hbb).trans (HCB.out j hjl)
      have hxm : x ≤ 9223372036854775807 := by rw [hx]; exact HM.out j hjl
      have HX : Hid (x = ps[j].1 ∧ k = ps[j].2) := ⟨hx, hk⟩
      clear hx hk
      have i1 : (0 : Int) ≤ (j : Int) := by omega
      have i2 : (j : Int) < (n : Int) := by omega
      go_wp2
      have hsz := hb.size
      go_region_held3 (fun w' => w'.cell? ⟨ba, j, none⟩ = some (.int .i64 x) ∧ w'.cell? ⟨bb, j, none⟩ = some (.int .i64 k)) (simp [go_sem, *])
        (first | (go_at_call 44; refine (rput_any x k hxm _).mono ?_; rintro e w1 ⟨rfl, hb1⟩; have k1 := (hb1.cell (p := ⟨ba, j, none⟩) (by simp; omega)).trans (by simpa using c1); have k2 := (hb1.cell (p := ⟨bb, j, none⟩) (by simp; omega)).trans (by simpa using c2)))
      have hb2 : Below w.heap.size w w1 := by
        refine Below.trans ?_ (hb1.mono (by simp; omega))
        repeat (first | exact hb | apply Below.drew)
      clear hb1 k1 k2 c1 c2
      have hadd := fun w2 => run_string_add_sum (P := Tryz.prog) (w := w2) ⟨(laidL (ps.take j)).toArray⟩ (putS x k) (by
        have h1 := laidL_le (ps.take j)
        have h2 : (ps.take j).length ≤ j := List.length_take_le _ _
        have h3 : (putS x k).size ≤ 6 := by have := putS_le x k; simpa using this
        have h4 : (⟨(laidL (ps.take j)).toArray⟩ : ByteArray).size = (laidL (ps.take j)).length := by simp [ByteArray.size]
        omega)
      by_cases hz : putE x k = 0
      · have hzb : (putE x k != 0) = false := by rw [hz]; rfl
        have HZ : Hid (putE x k = 0) := hz
        clear hz
        go_wp2
        go_roundw
        case rel =>
          refine ⟨j + 1, by omega, by go_num, ?_, ?_, hb2⟩
          · rw [laidL_take ps j hjl, ← HX.out.1, ← HX.out.2]
            congr 1
          · rw [laidOk_take ps j hjl, HK.out, ← HX.out.1, ← HX.out.2, HZ.out]; rfl
        case measure => simp [Go.RowKit.intOf]; omega
      · have hzb : (putE x k != 0) = true := by simpa using hz
        have HL : Hid (laidOk ps = false) := laidOk_stop ps j hjl (by rw [← HX.out.1, ← HX.out.2]; exact hzb)
        clear hz
        go_wp2
        go_ret2
        refine ⟨?_, hb2⟩
        unfold laidS
        rw [HL.out]
        rfl
    · have hjn : j = n := by omega
      subst hjn
      have HT : Hid (ps.take j = ps) := List.take_of_length_le (by rw [HN.out]; exact Nat.le_refl _)
      go_wp2
      go_ret2
      refine ⟨?_, hb⟩
      have hok := HK.out
      rw [HT.out] at hok
      unfold laidS
      rw [if_pos hok, hok]
      show Ending.returned (.tuple #[.string ⟨(laidL (ps.take j)).toArray⟩, .bool true]) = _
      rw [HT.out]

theorem cells_of_block {w : World} {b : Nat} {xs : List Int} {t : TypeId} (h : w.heap[b]? = some (.cells (xs.map (Value.int .i64)).toArray t (0, 0))) (i : Nat) (hi : i < xs.length) : w.cell? ⟨b, i, none⟩ = some (.int .i64 xs[i]) := by
  simp [World.cell?, h, hi]
/-- The same, the lists' cells told by their blocks. -/
theorem rlaid_blk (ps : List (Int × Int)) (n : Nat) (hn : ps.length = n) (hn2 : n ≤ 1000) (ba bb ca cb : Nat) (w : World) (ta tb : TypeId)
    (hA : w.heap[ba]? = some (.cells ((ps.map (·.1)).map (Value.int .i64)).toArray ta (0, 0))) (hB : w.heap[bb]? = some (.cells ((ps.map (·.2)).map (Value.int .i64)).toArray tb (0, 0)))
    (hm : ∀ p ∈ ps, p.1 ≤ 9223372036854775807) :
    Calls Tryz.prog 36 #[.slice (some ⟨ba, 0, none⟩) n ca, .slice (some ⟨bb, 0, none⟩) n cb] w fun e w' =>
      e = .returned (.tuple #[.string (laidS ps), .bool (laidOk ps)]) ∧ Below w.heap.size w w' :=
  rlaid_any ps n hn hn2 ba bb ca cb w (lt_of_block hA) (lt_of_block hB)
    (fun i h => by have := cells_of_block hA i (by simpa using h); simpa using this) (fun i h => by have := cells_of_block hB i (by simpa using h); simpa using this) (fun i h => hm _ (List.getElem_mem h))
theorem below1 (w : World) (o1 : Obj) : Below w.heap.size w (w.alloc o1) := (Below.refl _ _).alloc (Nat.le_refl _) _
theorem below2 (w : World) (o1 o2 : Obj) : Below w.heap.size w ((w.alloc o1).alloc o2) := (below1 w o1).alloc (by simp) _
theorem below3 (w : World) (o1 o2 o3 : Obj) : Below w.heap.size w (((w.alloc o1).alloc o2).alloc o3) := (below2 w o1 o2).alloc (by simp; omega) _
theorem heap3_1 (w : World) (o1 o2 o3 : Obj) : (((w.alloc o1).alloc o2).alloc o3).heap[w.heap.size + 1]? = some o2 := by
  rw [Below.heap_alloc _ _ _ (by simp)]
  have := heap_alloc_new (w.alloc o1) o2
  rwa [World.size_alloc] at this
theorem heap3_2 (w : World) (o1 o2 o3 : Obj) : (((w.alloc o1).alloc o2).alloc o3).heap[w.heap.size + 1 + 1]? = some o3 := by
  have := heap_alloc_new ((w.alloc o1).alloc o2) o3
  rwa [World.size_alloc, World.size_alloc] at this
end Go.Proofs.YtdhiopbomnfmnaaGreatDoor

namespace Go.Proofs.YtdhiopbomnfmnaaGreatDoor
set_option maxRecDepth 20000
open Go.RowKit

theorem headWidths_any (w : World) :
    Calls Tryz.prog 37 #[] w fun e w' => e = .returned (.slice (some ⟨w.heap.size, 0, none⟩) 8 8) ∧ w' = w.alloc (.cells #[.int .i64 6, .int .i64 4, .int .i64 2, .int .i64 4, .int .i64 4, .int .i64 4, .int .i64 6, .int .i64 6] 3) := by
  go_enter Tryz.func37, Tryz.ntmps37
  go_wp2
  go_ret
  exact ⟨rfl, rfl⟩
end Go.Proofs.YtdhiopbomnfmnaaGreatDoor

namespace Go.Proofs.YtdhiopbomnfmnaaGreatDoor
set_option maxRecDepth 20000
open Go.RowKit Go.Lib

set_option maxHeartbeats 1000000 in
theorem rhead_any (a0 a1 a2 a3 a4 a5 a6 a7 : Int) (hm : ∀ p ∈ headPs a0 a1 a2 a3 a4 a5 a6 a7, p.1 ≤ 9223372036854775807) (w : World) :
    Calls Tryz.prog 16 #[.agg #[.int .i64 a0, .int .i64 a1, .int .i64 a2, .int .i64 a3, .int .i64 a4, .int .i64 a5, .int .i64 a6, .int .i64 a7]] w fun e w' =>
      e = .returned (.tuple #[.string (recS [71, 82, 80, 78] (headPs a0 a1 a2 a3 a4 a5 a6 a7) 8), .int .i64 (recE (headPs a0 a1 a2 a3 a4 a5 a6 a7))]) ∧ Below w.heap.size w w' := by
  have HM : Hid (∀ p ∈ headPs a0 a1 a2 a3 a4 a5 a6 a7, p.1 ≤ 9223372036854775807) := hm
  clear hm
  have HL : Hid (laidOk (headPs a0 a1 a2 a3 a4 a5 a6 a7) = true → (laidL (headPs a0 a1 a2 a3 a4 a5 a6 a7)).length = 36) := fun h => laidL_length _ h
  obtain ⟨ps, hps⟩ : ∃ ps, ps = headPs a0 a1 a2 a3 a4 a5 a6 a7 := ⟨_, rfl⟩
  have HP : Hid (ps = headPs a0 a1 a2 a3 a4 a5 a6 a7) := hps
  rw [← hps] at HL HM ⊢
  clear hps
  go_enter Tryz.func16, Tryz.ntmps16
  go_wp2_with fail
  go_cut [4, 5] from 6 (fun s b wc => s = .string (laidS ps) ∧ b = .bool (laidOk ps) ∧ Below w.heap.size w wc)
  case first =>
    go_region_held3 (fun w' => w'.cell? ⟨w.heap.size, 0, none⟩ = some (.int .i64 a0) ∧ w'.cell? ⟨w.heap.size, 1, none⟩ = some (.int .i64 a1) ∧ w'.cell? ⟨w.heap.size, 2, none⟩ = some (.int .i64 a2) ∧ w'.cell? ⟨w.heap.size, 3, none⟩ = some (.int .i64 a3) ∧ w'.cell? ⟨w.heap.size, 4, none⟩ = some (.int .i64 a4) ∧ w'.cell? ⟨w.heap.size, 5, none⟩ = some (.int .i64 a5) ∧ w'.cell? ⟨w.heap.size, 6, none⟩ = some (.int .i64 a6) ∧ w'.cell? ⟨w.heap.size, 7, none⟩ = some (.int .i64 a7)) (simp [go_sem, World.cell?_alloc_past, *])
      (first | (go_at_call 37; refine (headWidths_any _).mono ?_; rintro e w1 ⟨rfl, rfl⟩) | (go_at_call 36; refine (rlaid_blk (headPs a0 a1 a2 a3 a4 a5 a6 a7) 8 rfl (by decide) _ _ 8 8 _ 3 3 (by first | exact heap3_1 w _ _ _ | exact heap3_2 w _ _ _) (by first | exact heap3_1 w _ _ _ | exact heap3_2 w _ _ _) (by rw [← HP.out]; exact HM.out)).mono ?_; rintro e w1 ⟨rfl, hbl⟩; have hk : ∀ i, w1.cell? ⟨w.heap.size, i, none⟩ = _ := fun i => hbl.cell (p := ⟨w.heap.size, i, none⟩) (by simp; omega)))
    all_goals
      go_wp2_with fail
      go_meet
      exact ⟨by rw [HP.out], by rw [HP.out], by
        exact (below3 w _ _ _).drew.trans (hbl.mono (by simp; omega))⟩
  case rest =>
    obtain ⟨rfl, rfl, hb⟩ := hcut
    cases ho : laidOk ps with
    | false =>
      have HO : Hid (laidOk ps = false) := ho
      clear ho
      go_wp2
      go_ret2
      exact ⟨by rw [recS_no HO.out, recE_no HO.out]; rfl, hb⟩
    | true =>
      have HO : Hid (laidOk ps = true) := ho
      rw [laidS_ok ho]
      have hsz : (⟨(laidL ps).toArray⟩ : ByteArray).size = 36 := by rw [← HL.out ho]; simp [ByteArray.size]
      clear ho
      have hadd := fun w2 => run_string_add_sum (P := Tryz.prog) (w := w2) ⟨#[71, 82, 80, 78]⟩ ⟨(laidL ps).toArray⟩ (by rw [hsz]; decide)
      have hadd2 := fun w2 => run_string_add_sum (P := Tryz.prog) (w := w2) (⟨#[71, 82, 80, 78]⟩ ++ ⟨(laidL ps).toArray⟩) (noughtsS 8) (by
        rw [noughtsS_size, ByteArray.size_append, hsz]; decide)
      clear hsz
      go_wp2_with fail
      refine (noughts_any 8 (by decide) _).mono ?_
      rintro e w3 ⟨rfl, hb3⟩
      go_wp2
      go_ret2
      refine ⟨?_, hb.trans (hb3.mono hb.size)⟩
      rw [recS_ok HO.out, recE_ok HO.out, ← rec_text ⟨#[71, 82, 80, 78]⟩ (laidL ps) 8]
      rfl
end Go.Proofs.YtdhiopbomnfmnaaGreatDoor

namespace Go.Proofs.YtdhiopbomnfmnaaGreatDoor
set_option maxRecDepth 20000
open Go.RowKit

set_option maxRecDepth 100000 in
set_option maxHeartbeats 4000000 in
theorem rseal_any (B : Nat) (F : Nat → Prop) (S : VS) (z : Int) (a b s : ByteArray) (hs : s.size ≤ 140737488355328) (hl : S.seals.length ≤ 1000000) (w : World) (hp : RefV w F B S) :
    Calls Tryz.prog 17 #[.pointer (some ⟨B, 0, none⟩), .int .i64 z, .string a, .string b, .string s] w fun e w' => e = .returned (.tuple #[.string (sealS S z a b s), .int .i64 (sealE z a)]) ∧ RefV w' (grow F w w') B (sealP S z a b s) ∧ Touch F w w' := by
  have hwr := rwrong_any z a w
  by_cases hf : fitB z a = true
  case neg =>
    have hf' : fitB z a = false := by simpa using hf
    rw [hf'] at hwr
    have HR : Hid (sealS S z a b s = ⟨#[]⟩ ∧ sealE z a = 1 ∧ sealP S z a b s = S) := ⟨by simp [sealS, hf'], by simp [sealE, hf'], by simp [sealP, hf']⟩
    have HP : Hid (RefV w (grow F w w) B S) := hp.mono fun k _ h => .inl h
    clear hp hf hf'
    simp only [Bool.not_false] at hwr
    go_enter Tryz.func17, Tryz.ntmps17
    go_wp2_with fail
    refine hwr.mono ?_
    rintro e w1 ⟨rfl, rfl⟩
    clear hwr
    go_wp2
    go_ret2
    exact ⟨by rw [HR.out.1, HR.out.2.1]; rfl, by rw [HR.out.2.2]; exact HP.out, Touch.refl _ _⟩
  rw [hf] at hwr
  simp only [Bool.not_true] at hwr
  have hfour := rfour_any B F S ⟨z, a, b, s⟩ hl w hp
  simp only [keyS] at hfour
  obtain ⟨hv, pv, fv, h⟩ := hp
  have HP : Hid (RefVAt w F B hv pv fv S) := h
  obtain ⟨op, cp, rfl⟩ := owns_slice h.fs
  have hBw := h.row.lt
  have d0 : w.cell? ⟨B, 0, none⟩ = some (.bool true) := h.row.cell 0
  have hle := numOf_le (⟨z, a, b, s⟩ : Four) S.seals
  clear h
  by_cases h0 : numOf S.seals ⟨z, a, b, s⟩ = 0
  case neg =>
    obtain ⟨k, hk⟩ : ∃ k, numOf S.seals ⟨z, a, b, s⟩ = k + 1 := ⟨numOf S.seals ⟨z, a, b, s⟩ - 1, by omega⟩
    have HR : Hid (sealS S z a b s = s ++ wideS (k + 1) 16 ∧ sealE z a = 0 ∧ sealP S z a b s = S) := ⟨by simp only [sealS, hf, if_true]; rw [numOf_add, if_neg h0, hk], by simp [sealE, hf], by simp only [sealP, hf, if_true]; rw [addN_old h0]⟩
    rw [hk, show (((k + 1 : Nat) : Int) - 1) = (k : Nat) by omega] at hfour
    have hnum := fun W => rnumbered_any ((k : Int) + 1) (k + 1) 16 (by omega) (by omega) (by decide) (by decide) 16 rfl W
    have hz : (wideS (k + 1) 16).size = 16 := wideS_size (by omega) (by decide)
    have hk1 : decide (((k : Nat) : Int) < 0) = false := by simp
    have hk2 : ((k : Nat) : Int) < 1000000 := by omega
    generalize wideS (k + 1) 16 = u at *
    have ha : ∀ w', (Op.stringOp .add s u).run Tryz.prog w' = .ok (.string (s ++ u)) w' := fun w' => run_string_add_sum (P := Tryz.prog) (w := w') _ _ (by omega)
    clear h0 hk hle hf
    go_enter Tryz.func17, Tryz.ntmps17
    go_wp2_with fail
    refine hwr.mono ?_
    rintro e w1 ⟨rfl, rfl⟩
    clear hwr
    go_wp2_with fail
    refine hfour.mono ?_
    rintro e w2 ⟨rfl, hb2⟩
    clear hfour d0
    go_wp2_with fail
    refine (hnum _).mono ?_
    rintro e w3 ⟨rfl, hb3⟩
    have hb := hb2.trans (hb3.mono hb2.size)
    have HF : Hid (RefV w3 (grow F w1 w3) B S ∧ Touch F w1 w3) := ⟨⟨_, _, _, (HP.out.keep fun k hk _ => hb.block k hk).mono fun k _ hf => .inl hf⟩, Touch.of_below hb⟩
    clear hnum hb hb2 hb3
    go_wp2
    go_ret2
    exact ⟨by rw [HR.out.1, HR.out.2.1]; rfl, by rw [HR.out.2.2]; exact HF.out.1, HF.out.2⟩
  have HR : Hid (sealS S z a b s = s ++ wideS (S.seals.length + 1) 16 ∧ sealE z a = 0 ∧ sealP S z a b s = { S with seals := S.seals ++ [⟨z, a, b, s⟩] }) := ⟨by simp only [sealS, hf, if_true]; rw [numOf_add, if_pos h0], by simp [sealE, hf], by simp only [sealP, hf, if_true]; rw [addN_new h0]⟩
  rw [h0, show (((0 : Nat) : Int) - 1) = -1 by rfl] at hfour
  have hnum := fun W => rnumbered_any ((S.seals.length : Int) + 1) (S.seals.length + 1) 16 (by omega) (by omega) (by decide) (by decide) 16 rfl W
  have hz : (wideS (S.seals.length + 1) 16).size = 16 := wideS_size (by omega) (by decide)
  obtain ⟨i0, hi0, hz0, hz1, hz2⟩ := info_parts info_four
  obtain ⟨n, hn⟩ : ∃ n, n = S.seals.length := ⟨_, rfl⟩
  have HE : Hid (n = S.seals.length) := hn
  rw [← hn] at hl hnum hz HR HP
  generalize wideS (n + 1) 16 = u at *
  have ha : ∀ w', (Op.stringOp .add s u).run Tryz.prog w' = .ok (.string (s ++ u)) w' := fun w' => run_string_add_sum (P := Tryz.prog) (w := w') _ _ (by omega)
  clear h0 hle hn hf
  have hone : ∀ u ∈ ([.int .i64 z, .string a, .string b, .string s] : List Value), u.oneCell' = true := by intro u hu; simp at hu; rcases hu with rfl | rfl | rfl | rfl <;> rfl
  go_enter Tryz.func17, Tryz.ntmps17
  go_wp2_with fail
  refine hwr.mono ?_
  rintro e w1 ⟨rfl, rfl⟩
  clear hwr
  go_wp2_with fail
  refine hfour.mono ?_
  rintro e w2 ⟨rfl, hb2⟩
  clear hfour d0
  have hP2 := HP.out.keep (w' := w2) fun k hk _ => hb2.block k hk
  have d4 : w2.cell? ⟨B, 4, none⟩ = some (.slice op n cp) := hP2.row.cell 4
  have hnew : (w2.alloc (.cells #[.int .i64 z, .string a, .string b, .string s] 98)).heap[w2.heap.size]? = some (.cells #[.int .i64 z, .string a, .string b, .string s] 98 (0, 0)) := heap_alloc_new w2 _
  have hA := hP2.keep (w' := w2.alloc (.cells #[.int .i64 z, .string a, .string b, .string s] 98)) fun k hk _ => Below.heap_alloc w2 _ k hk
  have hown := hA.fs
  rw [← HE.out] at hown
  have HA : Hid _ := hA
  have HTB : Hid (Touch F w1 (w2.alloc (.cells #[.int .i64 z, .string a, .string b, .string s] 98))) := Touch.of_below (hb2.alloc hb2.size _)
  clear hA hP2 hb2
  go_wp2_with (first | (at_builtin; refine wpList_append_own_at _ rfl _ _ 49 rfl 0 98 i0 (.agg #[.int .i64 0, .string ⟨#[]⟩, .string ⟨#[]⟩, .string ⟨#[]⟩]) 4 56 Tryz.underlying49 hi0 hz0 hz1 hz2 rfl (by decide) (.slice op n cp) n (fouC S.seals) rfl hown ⟨w2.heap.size, 0, none⟩ 1 1 [.int .i64 z, .string a, .string b, .string s] rfl rfl (World.news_of_block hnew) hone (by unfold maxLen; omega) (by omega) (Nat.zero_le _) ?_))
  intro v1 wB hown1 hgrow1 _ hat1
  obtain ⟨x1, x2, hmid, hT3⟩ := RefVAt.add_f (x := ⟨z, a, b, s⟩) HA.out HTB.out (by rw [← HE.out]; exact hown1) hgrow1 (by rw [show (w2.alloc (.cells #[.int .i64 z, .string a, .string b, .string s] 98)).heap.size = w2.heap.size + 1 by simp]; exact hat1)
  obtain ⟨g1, cap1, rfl, hgc, _⟩ := owns_form hown1 (by omega)
  obtain ⟨w5, hw5⟩ : ∃ w5, wB.setCell ⟨B, 4, none⟩ (.slice (some ⟨g1, 0, none⟩) (n + 1) cap1) = w5 := ⟨_, rfl⟩
  rw [hw5] at hmid hT3
  have HF : Hid (RefV w5 (grow F w1 w5) B (sealP S z a b s) ∧ Touch F w1 w5) := ⟨by rw [HR.out.2.2]; exact ⟨_, _, _, hmid⟩, hT3⟩
  clear hmid hT3 HA HTB hown1 hgrow1 hat1 hown hnew hone
  go_wp2_with fail
  refine (hnum _).mono ?_
  rintro e w6 ⟨rfl, hb⟩
  have HF6 : Hid (RefV w6 (grow F w1 w6) B (sealP S z a b s) ∧ Touch F w1 w6) := ⟨(HF.out.1.below hb).mono fun k _ hf => hf.imp id fun x => ⟨x.1, Nat.lt_of_lt_of_le x.2 hb.size⟩, HF.out.2.trans (Touch.of_below hb)⟩
  clear hnum hb HF
  go_wp2
  go_ret2
  exact ⟨by rw [HR.out.1, HR.out.2.1]; rfl, HF6.out.1, HF6.out.2⟩

end Go.Proofs.YtdhiopbomnfmnaaGreatDoor
