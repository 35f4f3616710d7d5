/- The document's laid, called with two lists of as many numbers (at most 1000, of type int), tells the bytes of the numbers in their widths, or that one has no room, and changes nothing that was there. · The document's widths of a head's numbers. · The document's Head, called with any head, tells the bytes and the error of its numbers in their widths, and changes nothing that was there. · The document's vault, the ideal one: Seal, Open. · The document's Nonce and Seal of blocks: of any vault whose Seal is told. · The law BlockReals, over what sum and box tell: called with any pass phrase, head and text, it returns true, and changes nothing that was there. · journal's Super under a real vault. · The document's Super, called with any superblock, tells the bytes superS and the error superE, and changes nothing that was there. · The document's Super under a real vault. -/
import Derived.Test.YtoopaigpjefonaaGreatDoorMg00
import Derived.Test.YtoopaigpjefonaaGreatDoorMg25
import Derived.Deep.RegionHeld3
import Derived.Test.YtoopaigpjefonaaGreatDoorMg23
import Derived.Deep.Cut
import Derived.Test.YtoopaigpjefonaaGreatDoorMg04
import Derived.Test.YtoopaigpjefonaaGreatDoorMg24
import Derived.Test.YtoopaigpjefonaaGreatDoorMg12
namespace Go.Proofs.YtoopaigpjefonaaGreatDoor
set_option maxRecDepth 20000
open Go.RowKit Go.Lib

theorem laidOk_take : ∀ (ps : List (Int × Int)) (j : Nat) (h : j < ps.length), laidOk (ps.take (j + 1)) = (laidOk (ps.take j) && (putE ps[j].1 ps[j].2 == 0))
  | p :: r, 0, _ => by simp [laidOk]
  | p :: r, j + 1, h => by
    have ih := laidOk_take r j (by simpa using h)
    rw [List.take_succ_cons, List.take_succ_cons, laidOk, laidOk, ih]
    simp [Bool.and_assoc]
theorem laidL_take (ps : List (Int × Int)) (j : Nat) (h : j < ps.length) : laidL (ps.take (j + 1)) = laidL (ps.take j) ++ (putS ps[j].1 ps[j].2).data.toList := by
  rw [List.take_succ_eq_append_getElem h, laidL_append]
  simp [laidL]
theorem laidOk_stop : ∀ (ps : List (Int × Int)) (j : Nat) (h : j < ps.length), (putE ps[j].1 ps[j].2 != 0) = true → laidOk ps = false
  | p :: r, 0, _, e => by simp [laidOk] at e ⊢; intro h; exact absurd h e
  | p :: r, j + 1, h, e => by
    have := laidOk_stop r j (by simpa using h) (by simpa using e)
    simp [laidOk, this]

def laidS (ps : List (Int × Int)) : ByteArray := if laidOk ps = true then ⟨(laidL ps).toArray⟩ else ByteArray.empty
theorem laidS_ok {ps : List (Int × Int)} (h : laidOk ps = true) : laidS ps = ⟨(laidL ps).toArray⟩ := by simp [laidS, h]
theorem laidS_no {ps : List (Int × Int)} (h : laidOk ps = false) : laidS ps = ByteArray.empty := by simp [laidS, h]
theorem rec_text (pre : ByteArray) (l : List UInt8) (z : Nat) : pre ++ ⟨l.toArray⟩ ++ noughtsS z = ⟨(pre.data.toList ++ l ++ List.replicate z 0).toArray⟩ := by
  rw [pad_append]
  congr 1

set_option maxHeartbeats 1000000 in
theorem rlaid_any (ps : List (Int × Int)) (n : Nat) (hn : ps.length = n) (hn2 : n ≤ 1000) (ba bb ca cb : Nat) (w : World) (hba : ba < w.heap.size) (hbb : bb < w.heap.size)
    (hca : ∀ i (h : i < ps.length), w.cell? ⟨ba, i, none⟩ = some (.int .i64 ps[i].1)) (hcb : ∀ i (h : i < ps.length), w.cell? ⟨bb, i, none⟩ = some (.int .i64 ps[i].2))
    (hm : ∀ i (h : i < ps.length), ps[i].1 ≤ 9223372036854775807) :
    Calls Tryz.prog 97 #[.slice (some ⟨ba, 0, none⟩) n ca, .slice (some ⟨bb, 0, none⟩) n cb] w fun e w' =>
      e = .returned (.tuple #[.string (laidS ps), .bool (laidOk ps)]) ∧ Below w.heap.size w w' := by
  have HCA : Hid (∀ i (h : i < ps.length), w.cell? ⟨ba, i, none⟩ = some (.int .i64 ps[i].1)) := hca
  have HCB : Hid (∀ i (h : i < ps.length), w.cell? ⟨bb, i, none⟩ = some (.int .i64 ps[i].2)) := hcb
  have HM : Hid (∀ i (h : i < ps.length), ps[i].1 ≤ 9223372036854775807) := hm
  have HN : Hid (ps.length = n) := hn
  clear hca hcb hm hn
  go_enter Tryz.func97, Tryz.ntmps97
  go_wp2
  go_loopw [6, 7] (fun s i wr => ∃ j : Nat, j ≤ n ∧ i = .int .i64 j ∧ s = .string ⟨(laidL (ps.take j)).toArray⟩ ∧ laidOk (ps.take j) = true ∧ Below w.heap.size w wr) (fun _ i _ => n - (Go.RowKit.intOf i).toNat)
  case atStart => exact ⟨0, Nat.zero_le _, rfl, by simp [laidL], rfl, Below.refl _ _⟩
  case round =>
    obtain ⟨j, hj, rfl, rfl, hok, hb⟩ := hrel
    have HK : Hid (laidOk (ps.take j) = true) := hok
    clear hok
    by_cases hlt : j < n
    · have hjl : j < ps.length := by rw [HN.out]; exact hlt
      obtain ⟨x, hx⟩ : ∃ x, x = ps[j].1 := ⟨_, rfl⟩
      obtain ⟨k, hk⟩ : ∃ k, k = ps[j].2 := ⟨_, rfl⟩
      have c1 : wr.cell? ⟨ba, j, none⟩ = some (.int .i64 x) := by rw [hx]; exact (hb.cell (p := ⟨ba, j, none⟩) hba).trans (HCA.out j hjl)
      have c2 : wr.cell? ⟨bb, j, none⟩ = some (.int .i64 k) := by rw [hk]; exact (hb.cell (p := ⟨bb, j, none⟩) hbb).trans (HCB.out j hjl)
      have hxm : x ≤ 9223372036854775807 := by rw [hx]; exact HM.out j hjl
      have HX : Hid (x = ps[j].1 ∧ k = ps[j].2) := ⟨hx, hk⟩
      clear hx hk
      have i1 : (0 : Int) ≤ (j : Int) := by omega
      have i2 : (j : Int) < (n : Int) := by omega
      go_wp2
      have hsz := hb.size
      go_region_held3 (fun w' => w'.cell? ⟨ba, j, none⟩ = some (.int .i64 x) ∧ w'.cell? ⟨bb, j, none⟩ = some (.int .i64 k)) (simp [go_sem, *])
        (first | (go_at_call 137; refine (rput_any x k hxm _).mono ?_; rintro e w1 ⟨rfl, hb1⟩; have k1 := (hb1.cell (p := ⟨ba, j, none⟩) (by simp; omega)).trans (by simpa using c1); have k2 := (hb1.cell (p := ⟨bb, j, none⟩) (by simp; omega)).trans (by simpa using c2)))
      have hb2 : Below w.heap.size w w1 := by
        refine Below.trans ?_ (hb1.mono (by simp; omega))
        repeat (first | exact hb | apply Below.drew)
      clear hb1 k1 k2 c1 c2
      have hadd := fun w2 => run_string_add_sum (P := Tryz.prog) (w := w2) ⟨(laidL (ps.take j)).toArray⟩ (putS x k) (by
        have h1 := laidL_le (ps.take j)
        have h2 : (ps.take j).length ≤ j := List.length_take_le _ _
        have h3 : (putS x k).size ≤ 6 := by have := putS_le x k; simpa using this
        have h4 : (⟨(laidL (ps.take j)).toArray⟩ : ByteArray).size = (laidL (ps.take j)).length := by simp [ByteArray.size]
        omega)
      by_cases hz : putE x k = 0
      · have hzb : (putE x k != 0) = false := by rw [hz]; rfl
        have HZ : Hid (putE x k = 0) := hz
        clear hz
        go_wp2
        go_roundw
        case rel =>
          refine ⟨j + 1, by omega, by go_num, ?_, ?_, hb2⟩
          · rw [laidL_take ps j hjl, ← HX.out.1, ← HX.out.2]
            congr 1
          · rw [laidOk_take ps j hjl, HK.out, ← HX.out.1, ← HX.out.2, HZ.out]; rfl
        case measure => simp [Go.RowKit.intOf]; omega
      · have hzb : (putE x k != 0) = true := by simpa using hz
        have HL : Hid (laidOk ps = false) := laidOk_stop ps j hjl (by rw [← HX.out.1, ← HX.out.2]; exact hzb)
        clear hz
        go_wp2
        go_ret2
        refine ⟨?_, hb2⟩
        unfold laidS
        rw [HL.out]
        rfl
    · have hjn : j = n := by omega
      subst hjn
      have HT : Hid (ps.take j = ps) := List.take_of_length_le (by rw [HN.out]; exact Nat.le_refl _)
      go_wp2
      go_ret2
      refine ⟨?_, hb⟩
      have hok := HK.out
      rw [HT.out] at hok
      unfold laidS
      rw [if_pos hok, hok]
      show Ending.returned (.tuple #[.string ⟨(laidL (ps.take j)).toArray⟩, .bool true]) = _
      rw [HT.out]

theorem cells_of_block {w : World} {b : Nat} {xs : List Int} {t : TypeId} (h : w.heap[b]? = some (.cells (xs.map (Value.int .i64)).toArray t (0, 0))) (i : Nat) (hi : i < xs.length) : w.cell? ⟨b, i, none⟩ = some (.int .i64 xs[i]) := by
  simp [World.cell?, h, hi]
/-- The same, the lists' cells told by their blocks. -/
theorem rlaid_blk (ps : List (Int × Int)) (n : Nat) (hn : ps.length = n) (hn2 : n ≤ 1000) (ba bb ca cb : Nat) (w : World) (ta tb : TypeId)
    (hA : w.heap[ba]? = some (.cells ((ps.map (·.1)).map (Value.int .i64)).toArray ta (0, 0))) (hB : w.heap[bb]? = some (.cells ((ps.map (·.2)).map (Value.int .i64)).toArray tb (0, 0)))
    (hm : ∀ p ∈ ps, p.1 ≤ 9223372036854775807) :
    Calls Tryz.prog 97 #[.slice (some ⟨ba, 0, none⟩) n ca, .slice (some ⟨bb, 0, none⟩) n cb] w fun e w' =>
      e = .returned (.tuple #[.string (laidS ps), .bool (laidOk ps)]) ∧ Below w.heap.size w w' :=
  rlaid_any ps n hn hn2 ba bb ca cb w (lt_of_block hA) (lt_of_block hB)
    (fun i h => by have := cells_of_block hA i (by simpa using h); simpa using this) (fun i h => by have := cells_of_block hB i (by simpa using h); simpa using this) (fun i h => hm _ (List.getElem_mem h))
theorem below1 (w : World) (o1 : Obj) : Below w.heap.size w (w.alloc o1) := (Below.refl _ _).alloc (Nat.le_refl _) _
theorem below2 (w : World) (o1 o2 : Obj) : Below w.heap.size w ((w.alloc o1).alloc o2) := (below1 w o1).alloc (by simp) _
theorem below3 (w : World) (o1 o2 o3 : Obj) : Below w.heap.size w (((w.alloc o1).alloc o2).alloc o3) := (below2 w o1 o2).alloc (by simp; omega) _
theorem heap3_1 (w : World) (o1 o2 o3 : Obj) : (((w.alloc o1).alloc o2).alloc o3).heap[w.heap.size + 1]? = some o2 := by
  rw [Below.heap_alloc _ _ _ (by simp)]
  have := heap_alloc_new (w.alloc o1) o2
  rwa [World.size_alloc] at this
theorem heap3_2 (w : World) (o1 o2 o3 : Obj) : (((w.alloc o1).alloc o2).alloc o3).heap[w.heap.size + 1 + 1]? = some o3 := by
  have := heap_alloc_new ((w.alloc o1).alloc o2) o3
  rwa [World.size_alloc, World.size_alloc] at this
end Go.Proofs.YtoopaigpjefonaaGreatDoor

namespace Go.Proofs.YtoopaigpjefonaaGreatDoor
set_option maxRecDepth 20000
open Go.RowKit

theorem headWidths_any (w : World) :
    Calls Tryz.prog 98 #[] w fun e w' => e = .returned (.slice (some ⟨w.heap.size, 0, none⟩) 8 8) ∧ w' = w.alloc (.cells #[.int .i64 6, .int .i64 4, .int .i64 2, .int .i64 4, .int .i64 4, .int .i64 4, .int .i64 6, .int .i64 6] 3) := by
  go_enter Tryz.func98, Tryz.ntmps98
  go_wp2
  go_ret
  exact ⟨rfl, rfl⟩
end Go.Proofs.YtoopaigpjefonaaGreatDoor

namespace Go.Proofs.YtoopaigpjefonaaGreatDoor
set_option maxRecDepth 20000
open Go.RowKit Go.Lib

set_option maxHeartbeats 1000000 in
theorem rhead_any (a0 a1 a2 a3 a4 a5 a6 a7 : Int) (hm : ∀ p ∈ headPs a0 a1 a2 a3 a4 a5 a6 a7, p.1 ≤ 9223372036854775807) (w : World) :
    Calls Tryz.prog 58 #[.agg #[.int .i64 a0, .int .i64 a1, .int .i64 a2, .int .i64 a3, .int .i64 a4, .int .i64 a5, .int .i64 a6, .int .i64 a7]] w fun e w' =>
      e = .returned (.tuple #[.string (recS [71, 82, 80, 78] (headPs a0 a1 a2 a3 a4 a5 a6 a7) 8), .int .i64 (recE (headPs a0 a1 a2 a3 a4 a5 a6 a7))]) ∧ Below w.heap.size w w' := by
  have HM : Hid (∀ p ∈ headPs a0 a1 a2 a3 a4 a5 a6 a7, p.1 ≤ 9223372036854775807) := hm
  clear hm
  have HL : Hid (laidOk (headPs a0 a1 a2 a3 a4 a5 a6 a7) = true → (laidL (headPs a0 a1 a2 a3 a4 a5 a6 a7)).length = 36) := fun h => laidL_length _ h
  obtain ⟨ps, hps⟩ : ∃ ps, ps = headPs a0 a1 a2 a3 a4 a5 a6 a7 := ⟨_, rfl⟩
  have HP : Hid (ps = headPs a0 a1 a2 a3 a4 a5 a6 a7) := hps
  rw [← hps] at HL HM ⊢
  clear hps
  go_enter Tryz.func58, Tryz.ntmps58
  go_wp2_with fail
  go_cut [4, 5] from 6 (fun s b wc => s = .string (laidS ps) ∧ b = .bool (laidOk ps) ∧ Below w.heap.size w wc)
  case first =>
    go_region_held3 (fun w' => w'.cell? ⟨w.heap.size, 0, none⟩ = some (.int .i64 a0) ∧ w'.cell? ⟨w.heap.size, 1, none⟩ = some (.int .i64 a1) ∧ w'.cell? ⟨w.heap.size, 2, none⟩ = some (.int .i64 a2) ∧ w'.cell? ⟨w.heap.size, 3, none⟩ = some (.int .i64 a3) ∧ w'.cell? ⟨w.heap.size, 4, none⟩ = some (.int .i64 a4) ∧ w'.cell? ⟨w.heap.size, 5, none⟩ = some (.int .i64 a5) ∧ w'.cell? ⟨w.heap.size, 6, none⟩ = some (.int .i64 a6) ∧ w'.cell? ⟨w.heap.size, 7, none⟩ = some (.int .i64 a7)) (simp [go_sem, World.cell?_alloc_past, *])
      (first | (go_at_call 98; refine (headWidths_any _).mono ?_; rintro e w1 ⟨rfl, rfl⟩) | (go_at_call 97; refine (rlaid_blk (headPs a0 a1 a2 a3 a4 a5 a6 a7) 8 rfl (by decide) _ _ 8 8 _ 3 3 (by first | exact heap3_1 w _ _ _ | exact heap3_2 w _ _ _) (by first | exact heap3_1 w _ _ _ | exact heap3_2 w _ _ _) (by rw [← HP.out]; exact HM.out)).mono ?_; rintro e w1 ⟨rfl, hbl⟩; have hk : ∀ i, w1.cell? ⟨w.heap.size, i, none⟩ = _ := fun i => hbl.cell (p := ⟨w.heap.size, i, none⟩) (by simp; omega)))
    all_goals
      go_wp2_with fail
      go_meet
      exact ⟨by rw [HP.out], by rw [HP.out], by
        exact (below3 w _ _ _).drew.trans (hbl.mono (by simp; omega))⟩
  case rest =>
    obtain ⟨rfl, rfl, hb⟩ := hcut
    cases ho : laidOk ps with
    | false =>
      have HO : Hid (laidOk ps = false) := ho
      clear ho
      go_wp2
      go_ret2
      exact ⟨by rw [recS_no HO.out, recE_no HO.out]; rfl, hb⟩
    | true =>
      have HO : Hid (laidOk ps = true) := ho
      rw [laidS_ok ho]
      have hsz : (⟨(laidL ps).toArray⟩ : ByteArray).size = 36 := by rw [← HL.out ho]; simp [ByteArray.size]
      clear ho
      have hadd := fun w2 => run_string_add_sum (P := Tryz.prog) (w := w2) ⟨#[71, 82, 80, 78]⟩ ⟨(laidL ps).toArray⟩ (by rw [hsz]; decide)
      have hadd2 := fun w2 => run_string_add_sum (P := Tryz.prog) (w := w2) (⟨#[71, 82, 80, 78]⟩ ++ ⟨(laidL ps).toArray⟩) (noughtsS 8) (by
        rw [noughtsS_size, ByteArray.size_append, hsz]; decide)
      clear hsz
      go_wp2_with fail
      refine (noughts_any 8 (by decide) _).mono ?_
      rintro e w3 ⟨rfl, hb3⟩
      go_wp2
      go_ret2
      refine ⟨?_, hb.trans (hb3.mono hb.size)⟩
      rw [recS_ok HO.out, recE_ok HO.out, ← rec_text ⟨#[71, 82, 80, 78]⟩ (laidL ps) 8]
      rfl
end Go.Proofs.YtoopaigpjefonaaGreatDoor

namespace Go.Proofs.YtoopaigpjefonaaGreatDoor
set_option maxRecDepth 20000
open Go.RowKit

set_option maxRecDepth 100000 in
set_option maxHeartbeats 4000000 in
theorem rseal_any (B : Nat) (F : Nat → Prop) (S : VS) (z : Int) (a b s : ByteArray) (hs : s.size ≤ 140737488355328) (hl : S.seals.length ≤ 1000000) (w : World) (hp : RefV w F B S) :
    Calls Tryz.prog 116 #[.pointer (some ⟨B, 0, none⟩), .int .i64 z, .string a, .string b, .string s] w fun e w' => e = .returned (.tuple #[.string (sealS S z a b s), .int .i64 (sealE z a)]) ∧ RefV w' (grow F w w') B (sealP S z a b s) ∧ Touch F w w' := by
  have hwr := rwrong_any z a w
  by_cases hf : fitB z a = true
  case neg =>
    have hf' : fitB z a = false := by simpa using hf
    rw [hf'] at hwr
    have HR : Hid (sealS S z a b s = ⟨#[]⟩ ∧ sealE z a = 1 ∧ sealP S z a b s = S) := ⟨by simp [sealS, hf'], by simp [sealE, hf'], by simp [sealP, hf']⟩
    have HP : Hid (RefV w (grow F w w) B S) := hp.mono fun k _ h => .inl h
    clear hp hf hf'
    simp only [Bool.not_false] at hwr
    go_enter Tryz.func116, Tryz.ntmps116
    go_wp2_with fail
    refine hwr.mono ?_
    rintro e w1 ⟨rfl, rfl⟩
    clear hwr
    go_wp2
    go_ret2
    exact ⟨by rw [HR.out.1, HR.out.2.1]; rfl, by rw [HR.out.2.2]; exact HP.out, Touch.refl _ _⟩
  rw [hf] at hwr
  simp only [Bool.not_true] at hwr
  have hfour := rfour_any B F S ⟨z, a, b, s⟩ hl w hp
  simp only [keyS] at hfour
  obtain ⟨hv, pv, fv, h⟩ := hp
  have HP : Hid (RefVAt w F B hv pv fv S) := h
  obtain ⟨op, cp, rfl⟩ := owns_slice h.fs
  have hBw := h.row.lt
  have d0 : w.cell? ⟨B, 0, none⟩ = some (.bool true) := h.row.cell 0
  have hle := numOf_le (⟨z, a, b, s⟩ : Four) S.seals
  clear h
  by_cases h0 : numOf S.seals ⟨z, a, b, s⟩ = 0
  case neg =>
    obtain ⟨k, hk⟩ : ∃ k, numOf S.seals ⟨z, a, b, s⟩ = k + 1 := ⟨numOf S.seals ⟨z, a, b, s⟩ - 1, by omega⟩
    have HR : Hid (sealS S z a b s = s ++ wideS (k + 1) 16 ∧ sealE z a = 0 ∧ sealP S z a b s = S) := ⟨by simp only [sealS, hf, if_true]; rw [numOf_add, if_neg h0, hk], by simp [sealE, hf], by simp only [sealP, hf, if_true]; rw [addN_old h0]⟩
    rw [hk, show (((k + 1 : Nat) : Int) - 1) = (k : Nat) by omega] at hfour
    have hnum := fun W => rnumbered_any ((k : Int) + 1) (k + 1) 16 (by omega) (by omega) (by decide) (by decide) 16 rfl W
    have hz : (wideS (k + 1) 16).size = 16 := wideS_size (by omega) (by decide)
    have hk1 : decide (((k : Nat) : Int) < 0) = false := by simp
    have hk2 : ((k : Nat) : Int) < 1000000 := by omega
    generalize wideS (k + 1) 16 = u at *
    have ha : ∀ w', (Op.stringOp .add s u).run Tryz.prog w' = .ok (.string (s ++ u)) w' := fun w' => run_string_add_sum (P := Tryz.prog) (w := w') _ _ (by omega)
    clear h0 hk hle hf
    go_enter Tryz.func116, Tryz.ntmps116
    go_wp2_with fail
    refine hwr.mono ?_
    rintro e w1 ⟨rfl, rfl⟩
    clear hwr
    go_wp2_with fail
    refine hfour.mono ?_
    rintro e w2 ⟨rfl, hb2⟩
    clear hfour d0
    go_wp2_with fail
    refine (hnum _).mono ?_
    rintro e w3 ⟨rfl, hb3⟩
    have hb := hb2.trans (hb3.mono hb2.size)
    have HF : Hid (RefV w3 (grow F w1 w3) B S ∧ Touch F w1 w3) := ⟨⟨_, _, _, (HP.out.keep fun k hk _ => hb.block k hk).mono fun k _ hf => .inl hf⟩, Touch.of_below hb⟩
    clear hnum hb hb2 hb3
    go_wp2
    go_ret2
    exact ⟨by rw [HR.out.1, HR.out.2.1]; rfl, by rw [HR.out.2.2]; exact HF.out.1, HF.out.2⟩
  have HR : Hid (sealS S z a b s = s ++ wideS (S.seals.length + 1) 16 ∧ sealE z a = 0 ∧ sealP S z a b s = { S with seals := S.seals ++ [⟨z, a, b, s⟩] }) := ⟨by simp only [sealS, hf, if_true]; rw [numOf_add, if_pos h0], by simp [sealE, hf], by simp only [sealP, hf, if_true]; rw [addN_new h0]⟩
  rw [h0, show (((0 : Nat) : Int) - 1) = -1 by rfl] at hfour
  have hnum := fun W => rnumbered_any ((S.seals.length : Int) + 1) (S.seals.length + 1) 16 (by omega) (by omega) (by decide) (by decide) 16 rfl W
  have hz : (wideS (S.seals.length + 1) 16).size = 16 := wideS_size (by omega) (by decide)
  obtain ⟨i0, hi0, hz0, hz1, hz2⟩ := info_parts info_four
  obtain ⟨n, hn⟩ : ∃ n, n = S.seals.length := ⟨_, rfl⟩
  have HE : Hid (n = S.seals.length) := hn
  rw [← hn] at hl hnum hz HR HP
  generalize wideS (n + 1) 16 = u at *
  have ha : ∀ w', (Op.stringOp .add s u).run Tryz.prog w' = .ok (.string (s ++ u)) w' := fun w' => run_string_add_sum (P := Tryz.prog) (w := w') _ _ (by omega)
  clear h0 hle hn hf
  have hone : ∀ u ∈ ([.int .i64 z, .string a, .string b, .string s] : List Value), u.oneCell' = true := by intro u hu; simp at hu; rcases hu with rfl | rfl | rfl | rfl <;> rfl
  go_enter Tryz.func116, Tryz.ntmps116
  go_wp2_with fail
  refine hwr.mono ?_
  rintro e w1 ⟨rfl, rfl⟩
  clear hwr
  go_wp2_with fail
  refine hfour.mono ?_
  rintro e w2 ⟨rfl, hb2⟩
  clear hfour d0
  have hP2 := HP.out.keep (w' := w2) fun k hk _ => hb2.block k hk
  have d4 : w2.cell? ⟨B, 4, none⟩ = some (.slice op n cp) := hP2.row.cell 4
  have hnew : (w2.alloc (.cells #[.int .i64 z, .string a, .string b, .string s] 256)).heap[w2.heap.size]? = some (.cells #[.int .i64 z, .string a, .string b, .string s] 256 (0, 0)) := heap_alloc_new w2 _
  have hA := hP2.keep (w' := w2.alloc (.cells #[.int .i64 z, .string a, .string b, .string s] 256)) fun k hk _ => Below.heap_alloc w2 _ k hk
  have hown := hA.fs
  rw [← HE.out] at hown
  have HA : Hid _ := hA
  have HTB : Hid (Touch F w1 (w2.alloc (.cells #[.int .i64 z, .string a, .string b, .string s] 256))) := Touch.of_below (hb2.alloc hb2.size _)
  clear hA hP2 hb2
  go_wp2_with (first | (at_builtin; refine wpList_append_own_at _ rfl _ _ 107 rfl 0 256 i0 (.agg #[.int .i64 0, .string ⟨#[]⟩, .string ⟨#[]⟩, .string ⟨#[]⟩]) 4 56 Tryz.underlying107 hi0 hz0 hz1 hz2 rfl (by decide) (.slice op n cp) n (fouC S.seals) rfl hown ⟨w2.heap.size, 0, none⟩ 1 1 [.int .i64 z, .string a, .string b, .string s] rfl rfl (World.news_of_block hnew) hone (by unfold maxLen; omega) (by omega) (Nat.zero_le _) ?_))
  intro v1 wB hown1 hgrow1 _ hat1
  obtain ⟨x1, x2, hmid, hT3⟩ := RefVAt.add_f (x := ⟨z, a, b, s⟩) HA.out HTB.out (by rw [← HE.out]; exact hown1) hgrow1 (by rw [show (w2.alloc (.cells #[.int .i64 z, .string a, .string b, .string s] 256)).heap.size = w2.heap.size + 1 by simp]; exact hat1)
  obtain ⟨g1, cap1, rfl, hgc, _⟩ := owns_form hown1 (by omega)
  obtain ⟨w5, hw5⟩ : ∃ w5, wB.setCell ⟨B, 4, none⟩ (.slice (some ⟨g1, 0, none⟩) (n + 1) cap1) = w5 := ⟨_, rfl⟩
  rw [hw5] at hmid hT3
  have HF : Hid (RefV w5 (grow F w1 w5) B (sealP S z a b s) ∧ Touch F w1 w5) := ⟨by rw [HR.out.2.2]; exact ⟨_, _, _, hmid⟩, hT3⟩
  clear hmid hT3 HA HTB hown1 hgrow1 hat1 hown hnew hone
  go_wp2_with fail
  refine (hnum _).mono ?_
  rintro e w6 ⟨rfl, hb⟩
  have HF6 : Hid (RefV w6 (grow F w1 w6) B (sealP S z a b s) ∧ Touch F w1 w6) := ⟨(HF.out.1.below hb).mono fun k _ hf => hf.imp id fun x => ⟨x.1, Nat.lt_of_lt_of_le x.2 hb.size⟩, HF.out.2.trans (Touch.of_below hb)⟩
  clear hnum hb HF
  go_wp2
  go_ret2
  exact ⟨by rw [HR.out.1, HR.out.2.1]; rfl, HF6.out.1, HF6.out.2⟩

end Go.Proofs.YtoopaigpjefonaaGreatDoor

namespace Go.Proofs.YtoopaigpjefonaaGreatDoor
set_option maxRecDepth 20000
open Go.RowKit Go.Lib

/-- Numbers that an int holds. -/
def hdInt (h : Hd) : Prop := IsInt h.v0 ∧ IsInt h.v1 ∧ IsInt h.v2 ∧ IsInt h.v3 ∧ IsInt h.v4 ∧ IsInt h.v5 ∧ IsInt h.v6 ∧ IsInt h.v7
theorem rbhead_any (h : Hd) (hi : hdInt h) (w : World) : Calls Tryz.prog 58 #[.agg #[.int .i64 h.v0, .int .i64 h.v1, .int .i64 h.v2, .int .i64 h.v3, .int .i64 h.v4, .int .i64 h.v5, .int .i64 h.v6, .int .i64 h.v7]] w fun e w' => e = .returned (.tuple #[.string h.txt, .int .i64 h.err]) ∧ Below w.heap.size w w' :=
  rhead_any h.v0 h.v1 h.v2 h.v3 h.v4 h.v5 h.v6 h.v7 (by
    obtain ⟨h0, h1, h2, h3, h4, h5, h6, h7⟩ := hi
    intro p hp
    simp only [headPs, List.mem_cons, List.mem_nil_iff, or_false] at hp
    rcases hp with rfl | rfl | rfl | rfl | rfl | rfl | rfl | rfl <;> (apply int_le8; assumption)) w
set_option maxHeartbeats 1000000 in
theorem rnonce_any (h : Hd) (he : h.err = 0) (hi : hdInt h) (w : World) : Calls Tryz.prog 117 #[.agg h.arr] w fun e w' => e = .returned (.string h.nonce) ∧ Below w.heap.size w w' := by
  obtain ⟨hn, hn2⟩ := nonce_eq he
  obtain ⟨u1, u2, _⟩ := hd_puts he
  have s1 := putS_len u1
  have s2 := putS_len u2
  rw [hn]
  rw [hn] at hn2
  clear hn he u1 u2
  obtain ⟨a0, a1, a2, a3, a4, a5, a6, a7⟩ := h
  simp only [Hd.arr]
  simp only at s1 s2 hn2
  have i1 : a1 ≤ 9223372036854775807 := int_le8 hi.2.1
  have i6 : a6 ≤ 9223372036854775807 := int_le8 hi.2.2.2.2.2.2.1
  have p1 := fun w => rput_any a1 4 i1 w
  have p2 := fun w => rput_any a6 6 i6 w
  generalize putS a1 4 = p at *
  generalize putS a6 6 = q at *
  have hz := noughtsS_size 2
  have hadd : ∀ w', (Op.stringOp .add p q).run Tryz.prog w' = .ok (.string (p ++ q)) w' := fun w' => run_string_add_sum (P := Tryz.prog) (w := w') _ _ (by rw [s1, s2]; decide)
  have hadd2 : ∀ w', (Op.stringOp .add (p ++ q) (noughtsS 2)).run Tryz.prog w' = .ok (.string (p ++ q ++ noughtsS 2)) w' := fun w' => run_string_add_sum (P := Tryz.prog) (w := w') _ _ (by rw [ByteArray.size_append, s1, s2, hz]; decide)
  have hno := fun w => noughts_z 2 2 rfl (by decide) w
  generalize noughtsS 2 = Z at *
  go_enter Tryz.func117, Tryz.ntmps117
  go_wp2_with fail
  refine (p1 _).mono ?_
  rintro e w1 ⟨rfl, hb1⟩
  have c6 := cells_kept hb1 6 _ rfl
  have hb1' : Below w.heap.size w w1 := ((Below.refl _ _).alloc (Nat.le_refl _) _).trans (hb1.mono (by simp))
  clear hb1
  go_wp2_with fail
  refine (p2 _).mono ?_
  rintro e w2 ⟨rfl, hb2⟩
  have hb3 : Below w.heap.size w w2 := hb1'.trans (hb2.mono hb1'.size)
  clear hb2 c6 hb1'
  go_wp2_with fail
  refine (hno _).mono ?_
  rintro e w3 ⟨rfl, hb4⟩
  have HB : Hid (Below w.heap.size w w3) := hb3.trans (hb4.mono hb3.size)
  clear hb3 hb4
  go_wp2
  go_ret
  exact ⟨rfl, HB.out⟩

set_option maxHeartbeats 1000000 in
theorem rbseal_short (v : Value) (h : Hd) (s : ByteArray) (hs : ¬ s.size = 448) (w : World) : Calls Tryz.prog 70 #[v, .agg h.arr, .string s] w fun e w' => e = .returned (.tuple #[.string ⟨#[]⟩, .int .i64 1]) ∧ Below w.heap.size w w' := by
  have hs' : ((s.size : Int) != 448) = true := bne_iff_ne.2 (by omega)
  have HB : Hid (Below w.heap.size w (w.alloc (.cells h.arr 121))) := (Below.refl _ _).alloc (Nat.le_refl _) _
  simp only [Hd.arr] at HB ⊢
  go_enter Tryz.func70, Tryz.ntmps70
  go_wp2
  go_ret2
  exact ⟨rfl, HB.out⟩
set_option maxHeartbeats 1000000 in
theorem rbseal_head (v : Value) (h : Hd) (s : ByteArray) (hs : s.size = 448) (he : ¬ h.err = 0) (hi : hdInt h) (w : World) : Calls Tryz.prog 70 #[v, .agg h.arr, .string s] w fun e w' => e = .returned (.tuple #[.string ⟨#[]⟩, .int .i64 h.err]) ∧ Below w.heap.size w w' := by
  have hs' : (s.size : Int) = 448 := by omega
  have he' : (h.err != 0) = true := bne_iff_ne.2 he
  have hh := fun w => rbhead_any h hi w
  have HB : Hid (Below w.heap.size w (w.alloc (.cells h.arr 121))) := (Below.refl _ _).alloc (Nat.le_refl _) _
  simp only [Hd.arr] at HB ⊢
  generalize h.txt = t at *
  generalize h.err = E at *
  go_enter Tryz.func70, Tryz.ntmps70
  go_wp2_with fail
  refine (hh _).mono ?_
  rintro e w1 ⟨rfl, hb1⟩
  have HB2 : Hid (Below w.heap.size w w1) := HB.out.trans (hb1.mono (by simp))
  clear hb1 HB hh
  go_wp2
  go_ret2
  exact ⟨rfl, HB2.out⟩
set_option maxHeartbeats 2000000 in
theorem rbseal_gen (v : Value) (h : Hd) (s T : ByteArray) (E : Int) (P : World → Prop) (w : World) (hs : s.size = 448) (he : h.err = 0) (hi : hdInt h) (hT : T.size ≤ 1000000)
    (hv : ∀ w', Below w.heap.size w w' → Calls Tryz.prog 116 #[v, .int .i64 h.v7, .string h.nonce, .string h.txt, .string s] w' fun e w'' => e = .returned (.tuple #[.string T, .int .i64 E]) ∧ P w'' ∧ ∀ k, w.heap.size ≤ k → k < w'.heap.size → w''.heap[k]? = w'.heap[k]?) :
    Calls Tryz.prog 70 #[v, .agg h.arr, .string s] w fun e w' => e = .returned (.tuple #[.string (if E = 0 then h.txt ++ T else ⟨#[]⟩), .int .i64 E]) ∧ P w' := by
  have hs' : (s.size : Int) = 448 := by omega
  have hh := fun w => rbhead_any h hi w
  have hn := fun w => rnonce_any h he hi w
  have ht := hd_size he
  have HB : Hid (Below w.heap.size w (w.alloc (.cells h.arr 121))) := (Below.refl _ _).alloc (Nat.le_refl _) _
  rw [he] at hh
  simp only [Hd.arr] at HB hn ⊢
  clear he
  generalize h.txt = t at *
  generalize h.nonce = n at *
  have hadd : (t ++ T).size ≤ maxLen := by rw [ByteArray.size_append]; unfold maxLen; omega
  by_cases hE : E = 0
  case' pos => subst hE; simp only [if_true]
  case' neg => have hE' : (E != 0) = true := bne_iff_ne.2 hE; simp only [hE, if_false]
  all_goals
    go_enter Tryz.func70, Tryz.ntmps70
    go_wp2_with fail
    refine (hh _).mono ?_
    rintro e w1 ⟨rfl, hb1⟩
    have c0 := cells_kept hb1 0 _ rfl
    have c1 := cells_kept hb1 1 _ rfl
    have c2 := cells_kept hb1 2 _ rfl
    have c3 := cells_kept hb1 3 _ rfl
    have c4 := cells_kept hb1 4 _ rfl
    have c5 := cells_kept hb1 5 _ rfl
    have c6 := cells_kept hb1 6 _ rfl
    have c7 := cells_kept hb1 7 _ rfl
    have HB2 : Hid (Below w.heap.size w w1) := HB.out.trans (hb1.mono (by simp))
    have hlt : w.heap.size < w1.heap.size := by have := hb1.size; simp at this; omega
    clear hb1 HB hh
    go_wp2_with fail
    go_region_held3 (fun w' => w'.cell? ⟨w.heap.size, 0, none⟩ = some (.int .i64 h.v0) ∧ w'.cell? ⟨w.heap.size, 1, none⟩ = some (.int .i64 h.v1) ∧ w'.cell? ⟨w.heap.size, 2, none⟩ = some (.int .i64 h.v2) ∧ w'.cell? ⟨w.heap.size, 3, none⟩ = some (.int .i64 h.v3) ∧ w'.cell? ⟨w.heap.size, 4, none⟩ = some (.int .i64 h.v4) ∧ w'.cell? ⟨w.heap.size, 5, none⟩ = some (.int .i64 h.v5) ∧ w'.cell? ⟨w.heap.size, 6, none⟩ = some (.int .i64 h.v6) ∧ w'.cell? ⟨w.heap.size, 7, none⟩ = some (.int .i64 h.v7)) (simp [go_sem, *])
      (first | (go_at_call 117; refine (hn _).mono ?_; rintro e wA ⟨rfl, hbA⟩; have HA : Hid (Below w.heap.size w wA) := HB2.out.drew.trans (hbA.mono HB2.out.size); have hk : ∀ i, wA.cell? ⟨w.heap.size, i, none⟩ = w1.cell? ⟨w.heap.size, i, none⟩ := fun i => hbA.cell (p := ⟨w.heap.size, i, none⟩) hlt) | (go_at_call 116; refine (hv _ HA.out).mono ?_; rintro e wB ⟨rfl, hP, hK⟩; have hk2 : ∀ i, wB.cell? ⟨w.heap.size, i, none⟩ = w1.cell? ⟨w.heap.size, i, none⟩ := fun i => (World.cell?_of_block (a := ⟨w.heap.size, i, none⟩) (hK w.heap.size (Nat.le_refl _) (Nat.lt_of_lt_of_le hlt hbA.size))).trans (hk i)))
    all_goals
      have HP : Hid (P wB) := hP
      clear hP hK hk hk2 hbA HA c0 c1 c2 c3 c4 c5 c6 c7
      go_wp2
      go_ret2
      exact ⟨rfl, HP.out⟩
theorem rbseal_any (B : Nat) (F : Nat → Prop) (S : VS) (h : Hd) (s : ByteArray) (hi : hdInt h) (hl : S.seals.length ≤ 1000000) (w : World) (hp : RefV w F B S) :
    Calls Tryz.prog 70 #[.pointer (some ⟨B, 0, none⟩), .agg h.arr, .string s] w fun e w' => e = .returned (.tuple #[.string (bsealS S h s), .int .i64 (bsealE h s)]) ∧ RefV w' (grow F w w') B (bsealP S h s) ∧ Touch F w w' := by
  by_cases hs : s.size = 448
  case neg =>
    have hB : bsealB h s = false := by simp [bsealB, hs]
    have e1 : bsealS S h s = ⟨#[]⟩ := by simp [bsealS, hB]
    have e2 : bsealE h s = 1 := by simp [bsealE, hs]
    have e3 : bsealP S h s = S := by simp [bsealP, hB]
    rw [e1, e2, e3]
    exact (rbseal_short _ h s hs w).mono fun e w' ⟨he, hb⟩ => ⟨he, (hp.below hb).mono fun k _ hF => .inl hF, Touch.of_below hb⟩
  by_cases he : h.err = 0
  case neg =>
    have hB : bsealB h s = false := by simp [bsealB, he]
    have e1 : bsealS S h s = ⟨#[]⟩ := by simp [bsealS, hB]
    have e2 : bsealE h s = h.err := by simp [bsealE, hs]
    have e3 : bsealP S h s = S := by simp [bsealP, hB]
    rw [e1, e2, e3]
    exact (rbseal_head _ h s hs he hi w).mono fun e w' ⟨he, hb⟩ => ⟨he, (hp.below hb).mono fun k _ hF => .inl hF, Touch.of_below hb⟩
  have hB : bsealB h s = true := by simp [bsealB, hs, he]
  have e1 : bsealS S h s = h.txt ++ sealS S h.v7 h.nonce h.txt s := by simp [bsealS, hB, sealS, fit_hd he, blkS, Hd.four]
  have e2 : bsealE h s = 0 := by simp [bsealE, hs, he]
  have e3 : bsealP S h s = sealP S h.v7 h.nonce h.txt s := by simp [bsealP, hB, sealP, fit_hd he, Hd.four]
  rw [e1, e2, e3]
  have hE : sealE h.v7 h.nonce = 0 := by simp [sealE, fit_hd he]
  have hz : (sealS S h.v7 h.nonce h.txt s).size ≤ 1000000 := by
    have hn : numOf (addN S.seals ⟨h.v7, h.nonce, h.txt, s⟩) ⟨h.v7, h.nonce, h.txt, s⟩ < 281474976710656 := by
      have h1 := numOf_le (⟨h.v7, h.nonce, h.txt, s⟩ : Four) (addN S.seals ⟨h.v7, h.nonce, h.txt, s⟩)
      have h2 := addN_length S.seals (⟨h.v7, h.nonce, h.txt, s⟩ : Four)
      omega
    unfold sealS
    rw [fit_hd he, if_pos rfl, ByteArray.size_append, hs, wideS_size hn (by decide)]
    decide
  have hg := rbseal_gen (.pointer (some ⟨B, 0, none⟩)) h s (sealS S h.v7 h.nonce h.txt s) 0 (fun w'' => RefV w'' (grow (fun k => F k ∧ k < w.heap.size) w w'') B (sealP S h.v7 h.nonce h.txt s) ∧ Touch (fun k => F k ∧ k < w.heap.size) w w'') w hs he hi hz fun w' hb => by
    have hp' : RefV w' (fun k => F k ∧ k < w.heap.size) B S := (hp.mono fun k hk hF => ⟨hF, hk⟩).below hb
    have := rseal_any B _ S h.v7 h.nonce h.txt s (by omega) hl w' hp'
    rw [hE] at this
    refine this.mono fun e w'' ⟨h1, h2, h3⟩ => ⟨h1, ⟨h2.mono fun k _ hF => hF.elim .inl fun hg => .inr ⟨Nat.le_trans hb.size hg.1, hg.2⟩, ?_⟩, fun k hk hk2 => h3.2 k hk2 fun hF => by omega⟩
    exact ⟨(hb.mono (Nat.zero_le _)).trans h3.1, fun k hk hn => (h3.2 k (Nat.lt_of_lt_of_le hk hb.size) hn).trans (hb.block k hk)⟩
  refine hg.mono fun e w' ⟨h1, h2, h3⟩ => ⟨h1, h2.mono fun k _ hF => hF.elim (fun h => .inl h.1) .inr, h3.mono fun k hF => hF.1⟩

theorem rv_new (w : World) : RefV (w.alloc (.cells #[.bool true, .string ⟨#[]⟩, .slice none 0 0, .slice none 0 0, .slice none 0 0] 109)) (fun k => k = w.heap.size) w.heap.size newV :=
  ⟨.slice none 0 0, .slice none 0 0, .slice none 0 0, heap_alloc_new w _, World.ownsRow_nil _ _ _ _, World.ownsRow_nil _ _ _ _, World.ownsRow_nil _ _ _ _, rfl, (fun _ h => by cases h), (fun _ h => by cases h), (fun _ h => by cases h), (fun h => by cases h), (fun h => by cases h), (fun h => by cases h), (fun _ h => by cases h), (fun _ h => by cases h), (fun _ h => by cases h)⟩
end Go.Proofs.YtoopaigpjefonaaGreatDoor

namespace Go.Proofs.YtoopaigpjefonaaGreatDoor
set_option maxRecDepth 20000
open Go.RowKit

structure Backs6 (f : PF) : Prop where
  back : ∀ k n a s : ByteArray, k.size = 32 → n.size = 12 → a.size ≤ 1048576 → s.size ≤ 1048000 → f.shutX k n = 0 ∧ f.opnX k n a (f.shut k n a s) = 0 ∧ f.opn k n a (f.shut k n a s) = s ∧ (f.shut k n a s).size = s.size + 16
/-- A block under a real vault, if it is one. -/
def brT (f : PF) (key : ByteArray) (h : Hd) (s : ByteArray) : ByteArray := f.shut (sealK f key h.v7) h.nonce h.txt s
def brS (f : PF) (key : ByteArray) (h : Hd) (s : ByteArray) : ByteArray := if bsealB h s then h.txt ++ brT f key h s else ⟨#[]⟩
theorem br_num {f : PF} (K : Backs6 f) (hz : ∀ k i, (f.exp k i).size = 32) (key : ByteArray) {h : Hd} {s : ByteArray} (he : h.err = 0) (hs : s.size = 448) : sealRE f key h.v7 h.nonce = 0 ∧ sealRS f key h.v7 h.nonce h.txt s = brT f key h s ∧ (brT f key h s).size = 464 ∧ openRE f key h.v7 h.nonce h.txt (brT f key h s) = 0 ∧ openRS f key h.v7 h.nonce h.txt (brT f key h s) = s := by
  have hf := fit_hd he
  have ht := hd_size he
  obtain ⟨k1, k2, k3, k4⟩ := K.back (sealK f key h.v7) h.nonce h.txt s (hz _ _) (nonce_eq he).2 (by omega) (by omega)
  have k5 : (brT f key h s).size = 464 := by unfold brT; omega
  refine ⟨?_, ?_, k5, ?_, ?_⟩
  · unfold sealRE; rw [hf, if_pos rfl, k1]
  · unfold sealRS; rw [hf, if_pos rfl]; rfl
  · unfold openRE; rw [hf, if_pos rfl, if_neg (by omega)]; exact k2
  · unfold openRS; rw [hf, if_pos rfl, if_neg (by omega)]; exact k3
theorem brseal_any {Tab : World → Prop} {f : PF} (P : Prims Tab f) (K : Backs6 f) (B : Nat) (key : ByteArray) (hk : key.size = 32) (h : Hd) (s : ByteArray) (w : World) (ht : Tab w) (hp : RealV w B key) :
    Calls Tryz.prog 96 #[.pointer (some ⟨B, 0, none⟩), .agg h.arr, .string s] w fun e w' => e = .returned (.tuple #[.string (brS f key h s), .int .i64 (bsealE h s)]) ∧ Below w.heap.size w w' := by
  by_cases hs : s.size = 448
  · by_cases he : h.err = 0
    · obtain ⟨n1, n2, n3, _, _⟩ := br_num K P.expz key he hs
      have e1 : brS f key h s = h.txt ++ brT f key h s := by unfold brS bsealB; rw [decide_eq_true ⟨hs, he⟩, if_pos rfl]
      have e2 : bsealE h s = 0 := by unfold bsealE; rw [if_pos hs, he]
      rw [e1, e2]
      have := bseal_gen (.pointer (some ⟨B, 0, none⟩)) h s (brT f key h s) 0 (fun w' => Below w.heap.size w w') w hs he (by omega) (fun w' hb => by
        have h1 := rvseal_any P B key h.v7 h.nonce h.txt s (by omega) (by rw [hd_size he]; decide) (by omega) w' (P.tab ht hb) (hp.below hb)
        rw [n1, n2] at h1
        exact h1.mono fun e w'' ⟨he, hb2⟩ => ⟨he, hb.trans (hb2.mono hb.size), fun k _ hk => hb2.block k hk⟩)
      rw [if_pos rfl] at this
      exact this
    · have e1 : brS f key h s = ⟨#[]⟩ := by unfold brS bsealB; rw [decide_eq_false (fun hh => he hh.2)]; rfl
      have e2 : bsealE h s = h.err := by unfold bsealE; rw [if_pos hs]
      rw [e1, e2]
      exact bseal_head _ h s hs he w
  · have e1 : brS f key h s = ⟨#[]⟩ := by unfold brS bsealB; rw [decide_eq_false (fun hh => hs hh.1)]; rfl
    have e2 : bsealE h s = 1 := by unfold bsealE; rw [if_neg hs]
    rw [e1, e2]
    exact bseal_short _ h s hs w
theorem rbrseal_any {f : PF} (P : RPrims f) (K : Backs6 f) (B : Nat) (key : ByteArray) (hk : key.size = 32) (h : Hd) (hi : hdInt h) (s : ByteArray) (w : World) (hp : RefR w B key) :
    Calls Tryz.prog 70 #[.pointer (some ⟨B, 0, none⟩), .agg h.arr, .string s] w fun e w' => e = .returned (.tuple #[.string (brS f key h s), .int .i64 (bsealE h s)]) ∧ Below w.heap.size w w' := by
  by_cases hs : s.size = 448
  · by_cases he : h.err = 0
    · obtain ⟨n1, n2, n3, _, _⟩ := br_num K P.expz key he hs
      have e1 : brS f key h s = h.txt ++ brT f key h s := by unfold brS bsealB; rw [decide_eq_true ⟨hs, he⟩, if_pos rfl]
      have e2 : bsealE h s = 0 := by unfold bsealE; rw [if_pos hs, he]
      rw [e1, e2]
      have := rbseal_gen (.pointer (some ⟨B, 0, none⟩)) h s (brT f key h s) 0 (fun w' => Below w.heap.size w w') w hs he hi (by omega) (fun w' hb => by
        have h1 := rrseal_any P B key h.v7 h.nonce h.txt s (by omega) (by rw [hd_size he]; decide) (by omega) w' (hp.keep hb)
        rw [n1, n2] at h1
        exact h1.mono fun e w'' ⟨he, hb2⟩ => ⟨he, hb.trans (hb2.mono hb.size), fun k _ hk => hb2.block k hk⟩)
      rw [if_pos rfl] at this
      exact this
    · have e1 : brS f key h s = ⟨#[]⟩ := by unfold brS bsealB; rw [decide_eq_false (fun hh => he hh.2)]; rfl
      have e2 : bsealE h s = h.err := by unfold bsealE; rw [if_pos hs]
      rw [e1, e2]
      exact rbseal_head _ h s hs he hi w
  · have e1 : brS f key h s = ⟨#[]⟩ := by unfold brS bsealB; rw [decide_eq_false (fun hh => hs hh.1)]; rfl
    have e2 : bsealE h s = 1 := by unfold bsealE; rw [if_neg hs]
    rw [e1, e2]
    exact rbseal_short _ h s hs w
theorem bropen_any {Tab : World → Prop} {f : PF} (P : Prims Tab f) (K : Backs6 f) (B : Nat) (key : ByteArray) (hk : key.size = 32) (h : Hd) (s : ByteArray) (hs : s.size = 448) (he : h.err = 0) (w : World) (ht : Tab w) (hp : RealV w B key) :
    Calls Tryz.prog 142 #[.pointer (some ⟨B, 0, none⟩), .string (brS f key h s)] w fun e w' => e = .returned (.tuple #[.agg h.arr, .string s, .int .i64 0]) ∧ Below w.heap.size w w' := by
  obtain ⟨_, _, n3, n4, n5⟩ := br_num K P.expz key he hs
  have e1 : brS f key h s = h.txt ++ brT f key h s := by unfold brS bsealB; rw [decide_eq_true ⟨hs, he⟩, if_pos rfl]
  have hz := hd_size he
  obtain ⟨c1, c2⟩ := ba_cut (b := brT f key h s) hz
  rw [n3] at c2
  have c3 : (h.txt ++ brT f key h s).size = 512 := by rw [ByteArray.size_append]; omega
  rw [e1]
  have hE : headE ((h.txt ++ brT f key h s).extract 0 48) = 0 := by rw [c1]; exact hd_headE he
  have := bopen_gen (.pointer (some ⟨B, 0, none⟩)) (h.txt ++ brT f key h s) s 0 w c3 hE (fun w' hb => by
    rw [c1, hd_reads he, c2]
    have h1 := rvopen_any P B key h.v7 h.nonce h.txt (brT f key h s) (by omega) (by omega) (by omega) w' (P.tab ht hb) (hp.below hb)
    rw [n4, n5] at h1
    exact h1)
  rw [if_pos rfl, if_pos rfl, c1, hd_reads he] at this
  exact this
end Go.Proofs.YtoopaigpjefonaaGreatDoor

namespace Go.Proofs.YtoopaigpjefonaaGreatDoor
set_option maxRecDepth 20000
open Go.RowKit

/-- A superblock's block under a real vault. -/
def supRS (f : PF) (key : ByteArray) (s : Sp) : ByteArray := if supE s = 0 then brS f key s.hd s.txt else ⟨#[]⟩
theorem jsuper_real {Tab : World → Prop} {f : PF} (P : Prims Tab f) (K : Backs6 f) (B : Nat) (key : ByteArray) (hk : key.size = 32) (s : Sp) (w : World) (ht : Tab w) (hp : RealV w B key) :
    Calls Tryz.prog 56 #[.pointer (some ⟨B, 0, none⟩), .agg s.arr] w fun e w' => e = .returned (.tuple #[.agg #[.int .i64 (supA s), .string (supRS f key s)], .int .i64 (supE s)]) ∧ Below w.heap.size w w' := by
  have hp0 := fun w => super_any s.vol s.ep s.nx s.lv s.root w
  by_cases he : s.err = 0
  · have he' : superE s.vol s.ep s.nx s.lv s.root = 0 := he
    rw [he'] at hp0
    have e1 : supE s = bsealE s.hd s.txt := if_pos he
    have e3 : supA s = if bsealE s.hd s.txt = 0 then s.ep.tmod 2 else 0 := by unfold supA; rw [e1]
    have e4 : supRS f key s = if bsealE s.hd s.txt = 0 then brS f key s.hd s.txt else ⟨#[]⟩ := by unfold supRS; rw [e1]
    rw [e1, e3, e4]
    exact jsup_yes (.pointer (some ⟨B, 0, none⟩)) s.vol s.ep s.nx s.lv s.root s.txt (brS f key s.hd s.txt) (bsealE s.hd s.txt) (fun w'' => Below w.heap.size w w'') w (fun w1 w2 h hb => h.trans hb) hp0 fun w1 hb =>
      (brseal_any P K B key hk s.hd s.txt w1 (P.tab ht hb) (hp.below hb)).mono fun e w'' ⟨h1, h2⟩ => ⟨h1, hb.trans (h2.mono hb.size), fun k _ hk2 => h2.block k hk2, h2.size⟩
  · have he' : ¬ superE s.vol s.ep s.nx s.lv s.root = 0 := he
    have e1 : supE s = superE s.vol s.ep s.nx s.lv s.root := if_neg he
    have e3 : supA s = 0 := by unfold supA; rw [e1]; exact if_neg he'
    have e4 : supRS f key s = ⟨#[]⟩ := by unfold supRS; rw [e1]; exact if_neg he'
    rw [e1, e3, e4]
    exact jsup_no (.pointer (some ⟨B, 0, none⟩)) s.vol s.ep s.nx s.lv s.root (superS s.vol s.ep s.nx s.lv s.root) _ w he' hp0
end Go.Proofs.YtoopaigpjefonaaGreatDoor

namespace Go.Proofs.YtoopaigpjefonaaGreatDoor
set_option maxRecDepth 20000
open Go.RowKit Go.Lib

theorem rsuper_arg (a0 a1 a2 a3 : Int) (r : ByteArray) (h : ((r.size : Int) != 32) = true) (w : World) :
    Calls Tryz.prog 69 #[.agg #[.int .i64 a0, .int .i64 a1, .int .i64 a2, .int .i64 a3, .string r]] w fun e w' => e = .returned (.tuple #[.string ByteArray.empty, .int .i64 1]) ∧ Below w.heap.size w w' := by
  go_enter Tryz.func69, Tryz.ntmps69
  go_wp2
  go_ret2
  exact ⟨rfl, (Below.refl _ _).alloc (Nat.le_refl _) _⟩

set_option maxHeartbeats 1000000 in
theorem rsuper_in (a0 a1 a2 a3 : Int) (r : ByteArray) (hr : r.size = 32) (hm : ∀ p ∈ superPs a0 a1 a2 a3, p.1 ≤ 9223372036854775807) (w : World) :
    Calls Tryz.prog 69 #[.agg #[.int .i64 a0, .int .i64 a1, .int .i64 a2, .int .i64 a3, .string r]] w fun e w' => e = .returned (.tuple #[.string (superS a0 a1 a2 a3 r), .int .i64 (superE a0 a1 a2 a3 r)]) ∧ Below w.heap.size w w' := by
  have hrb : ((r.size : Int) != 32) = false := by rw [hr]; rfl
  have HR : Hid (r.size = 32) := hr
  have HM : Hid (∀ p ∈ superPs a0 a1 a2 a3, p.1 ≤ 9223372036854775807) := hm
  clear hr hm
  go_enter Tryz.func69, Tryz.ntmps69
  go_wp2_with fail
  refine (rlaid_blk (superPs a0 a1 a2 a3) 4 rfl (by decide) _ _ 4 4 _ 3 3 (by exact heap3_1 w _ _ _) (by exact heap3_2 w _ _ _) HM.out).mono ?_
  rintro e w1 ⟨rfl, hb1⟩
  have c4 := (hb1.cell (p := ⟨w.heap.size, 4, none⟩) (by simp; omega)).trans (show _ = some (Value.string r) from by
    rw [World.cell?_alloc_past _ _ _ (by simp; omega)]; exact cells_boxed w _ _ _ 4 _ rfl)
  have hb : Below w.heap.size w w1 := (below3 w _ _ _).trans (hb1.mono (by simp; omega))
  clear hb1
  cases ho : laidOk (superPs a0 a1 a2 a3) with
  | false =>
    have HO : Hid (laidOk (superPs a0 a1 a2 a3) = false) := ho
    clear ho
    go_wp2
    go_ret2
    refine ⟨?_, hb⟩
    unfold superS superE
    rw [if_neg (by rw [HO.out]; simp), if_pos HR.out, recE_no HO.out]
    rfl
  | true =>
    have HO : Hid (laidOk (superPs a0 a1 a2 a3) = true) := ho
    rw [laidS_ok ho]
    have hsz : (⟨(laidL (superPs a0 a1 a2 a3)).toArray⟩ : ByteArray).size = 22 := by have := laidL_length _ ho; simp [ByteArray.size, this]; rfl
    clear ho
    generalize hG : (⟨(laidL (superPs a0 a1 a2 a3)).toArray⟩ : ByteArray) = g at *
    have HG : Hid ((⟨(laidL (superPs a0 a1 a2 a3)).toArray⟩ : ByteArray) = g) := hG
    clear hG
    have hadd := fun w2 => run_string_add_sum (P := Tryz.prog) (w := w2) g r (by rw [hsz, HR.out]; decide)
    have hadd2 := fun w2 => run_string_add_sum (P := Tryz.prog) (w := w2) (g ++ r) (noughtsS 394) (by
      rw [noughtsS_size, ByteArray.size_append, hsz, HR.out]; decide)
    clear hsz
    go_wp2
    go_region_held3 (fun w' => w'.cell? ⟨w.heap.size, 4, none⟩ = some (.string r)) (simp [go_sem, *])
      (first | (go_at_call 36; refine (noughts_any 394 (by decide) _).mono ?_; rintro e w2 ⟨rfl, hb2⟩; have hk := (hb2.cell (p := ⟨w.heap.size, 4, none⟩) (by have := block_lt_of_cell c4; simpa using this)).trans (by simpa using c4)))
    go_wp2
    go_ret2
    refine ⟨?_, Below.trans ?_ (hb2.mono (by simpa using hb.size))⟩
    · unfold superS superE
      rw [if_pos ⟨HR.out, HO.out⟩, if_pos HR.out, recE_ok HO.out, ← padL_add, HG.out]
      rfl
    · repeat (first | exact hb | apply Below.drew)

theorem rsuper_any (a0 a1 a2 a3 : Int) (r : ByteArray) (hm : ∀ p ∈ superPs a0 a1 a2 a3, p.1 ≤ 9223372036854775807) (w : World) :
    Calls Tryz.prog 69 #[.agg #[.int .i64 a0, .int .i64 a1, .int .i64 a2, .int .i64 a3, .string r]] w fun e w' => e = .returned (.tuple #[.string (superS a0 a1 a2 a3 r), .int .i64 (superE a0 a1 a2 a3 r)]) ∧ Below w.heap.size w w' := by
  by_cases hr : r.size = 32
  · exact rsuper_in a0 a1 a2 a3 r hr hm w
  · have e1 : superS a0 a1 a2 a3 r = ByteArray.empty := by unfold superS; rw [if_neg (fun h => hr h.1)]
    have e2 : superE a0 a1 a2 a3 r = 1 := by unfold superE; rw [if_neg hr]
    rw [e1, e2]
    exact rsuper_arg a0 a1 a2 a3 r (by simp; omega) w
end Go.Proofs.YtoopaigpjefonaaGreatDoor

namespace Go.Proofs.YtoopaigpjefonaaGreatDoor
set_option maxRecDepth 20000
open Go.RowKit

theorem rjsup_ret (tmps : Array Value) (g : Nat) (w' : World) (a : Int) (r : ByteArray) (y : Int) (R : Ending → World → Prop) (h1 : tmps.getD 4 undef = .pointer (some ⟨g, 0, none⟩)) (h2 : tmps.getD 5 undef = .int .i64 y) (hg : w'.heap[g]? = some (.cells #[.int .i64 a, .string r] 68 (0, 0))) (hR : R (.returned (.tuple #[.agg #[.int .i64 a, .string r], .int .i64 y])) w') :
    bodyPost Tryz.prog Tryz.f34 R .ret { tmps := tmps, defers := [] } w' := by
  have hr := run_loadVar_row (P := Tryz.prog) w' g 68 68 #[.int .i64 a, .string r] (0, 0) _ hg Tryz.underlying68 rfl (by kernel_rfl)
  simp at h1 h2
  exact bodyPost_ret (v := .tuple #[.agg #[.int .i64 a, .string r], .int .i64 y]) (by simp [results, Tryz.results34, asAddr, hr, h1, h2]) rfl hR
set_option maxHeartbeats 4000000 in
theorem rjsup_no (v : Value) (a0 a1 a2 a3 : Int) (r T : ByteArray) (E : Int) (w : World) (hE : ¬ E = 0)
    (hp : ∀ w, Calls Tryz.prog 69 #[.agg #[.int .i64 a0, .int .i64 a1, .int .i64 a2, .int .i64 a3, .string r]] w fun e w' => e = .returned (.tuple #[.string T, .int .i64 E]) ∧ Below w.heap.size w w') :
    Calls Tryz.prog 34 #[v, .agg #[.int .i64 a0, .int .i64 a1, .int .i64 a2, .int .i64 a3, .string r]] w fun e w' => e = .returned (.tuple #[.agg #[.int .i64 0, .string ⟨#[]⟩], .int .i64 E]) ∧ Below w.heap.size w w' := by
  have hE1 : (E != 0) = true := by simpa using hE
  clear hE
  go_enter Tryz.func34, Tryz.ntmps34
  go_wp2_with fail
  refine (hp _).mono ?_
  rintro e w1 ⟨rfl, hb1⟩
  have g1 := (hb1.block (w.heap.size + 1) (by simp)).trans (heap_alloc2_new w _ _)
  have hbw : Below w.heap.size w w1 := (((Below.refl _ _).alloc (Nat.le_refl _) _).alloc (by simp) _).trans (hb1.mono (by simp; omega))
  clear hp hb1
  go_wp2_with (refine wpList_store_row rfl 68 _ _ rfl (w.heap.size + 1) #[.int .i64 0, .string ⟨#[]⟩] rfl rfl 68 _ g1 (by kernel_rfl) rfl (by simp [Value.oneCell']) ?_)
  exact rjsup_ret _ (w.heap.size + 1) _ 0 ⟨#[]⟩ E _ rfl rfl (setRow_heap _ _ _ _ _ _ g1) ⟨rfl, below_setRow hbw (by omega) _⟩
set_option maxHeartbeats 4000000 in
theorem rjsup_yes (v : Value) (a0 a1 a2 a3 : Int) (r T X : ByteArray) (E : Int) (P : World → Prop) (w : World) (hP : Stb w.heap.size P)
    (hp : ∀ w, Calls Tryz.prog 69 #[.agg #[.int .i64 a0, .int .i64 a1, .int .i64 a2, .int .i64 a3, .string r]] w fun e w' => e = .returned (.tuple #[.string T, .int .i64 0]) ∧ Below w.heap.size w w')
    (hs : ∀ w', Below w.heap.size w w' → Calls Tryz.prog 70 #[v, .agg #[.int .i64 a0, .int .i64 (a1.tmod 2), .int .i64 1, .int .i64 0, .int .i64 0, .int .i64 0, .int .i64 a1, .int .i64 a1], .string T] w' fun e w'' => e = .returned (.tuple #[.string X, .int .i64 E]) ∧ P w'' ∧ Kept w.heap.size w' w'' ∧ w'.heap.size ≤ w''.heap.size) :
    Calls Tryz.prog 34 #[v, .agg #[.int .i64 a0, .int .i64 a1, .int .i64 a2, .int .i64 a3, .string r]] w fun e w' => e = .returned (.tuple #[.agg #[.int .i64 (if E = 0 then a1.tmod 2 else 0), .string (if E = 0 then X else ⟨#[]⟩)], .int .i64 E]) ∧ P w' := by
  go_enter Tryz.func34, Tryz.ntmps34
  go_wp2_with fail
  refine (hp _).mono ?_
  rintro e w1 ⟨rfl, hb1⟩
  have g1 := (hb1.block (w.heap.size + 1) (by simp)).trans (heap_alloc2_new w _ _)
  have g0 := (hb1.block w.heap.size (by simp; omega)).trans (heap_alloc2_old w _ _)
  have hbw : Below w.heap.size w w1 := (((Below.refl _ _).alloc (Nat.le_refl _) _).alloc (by simp) _).trans (hb1.mono (by simp; omega))
  have hlt := lt_of_block g1
  have c0 : w1.cell? ⟨w.heap.size, 0, none⟩ = some (.int .i64 a0) := cell_of_row _ _ 0 _ _ _ g0
  have c1 : w1.cell? ⟨w.heap.size, 1, none⟩ = some (.int .i64 a1) := cell_of_row _ _ 1 _ _ _ g0
  have hs2 := hs (w1.alloc (.cells #[.int .i64 a0, .int .i64 (a1.tmod 2), .int .i64 1, .int .i64 0, .int .i64 0, .int .i64 0, .int .i64 a1, .int .i64 a1] 121)) (hbw.alloc (by omega) _)
  clear hp hb1 hs
  go_wp2_with fail
  refine hs2.mono ?_
  rintro e w3 ⟨rfl, hp3, hk3, hz3⟩
  have g3 : w3.heap[w.heap.size + 1]? = _ := (hk3 _ (by omega) (by simp; omega)).trans ((Below.heap_alloc _ _ _ hlt).trans g1)
  have gh : w3.heap[w1.heap.size]? = _ := (hk3 _ (by omega) (by simp)).trans (heap_alloc_new w1 _)
  have gp : w3.heap[w.heap.size]? = _ := (hk3 _ (Nat.le_refl _) (by simp; omega)).trans ((Below.heap_alloc _ _ _ (by omega)).trans g0)
  have ch : w3.cell? ⟨w.heap.size, 1, none⟩ = some (.int .i64 a1) := cell_of_row _ _ 1 _ _ _ gp
  have HP3 : Hid (∀ cs, P (w3.setRow (w.heap.size + 1) cs)) := fun cs => hP _ _ hp3 (below_setRow (Below.refl _ _) (by omega) _)
  clear hs2 g0 c0 c1 gh gp hp3 hk3 hz3 g1 hbw
  by_cases hE : E = 0
  · subst hE
    go_wp2_with (refine wpList_store_row rfl 68 _ _ rfl (w.heap.size + 1) #[.int .i64 (a1.tmod 2), .string X] rfl rfl 68 _ g3 (by kernel_rfl) rfl (by simp [Value.oneCell']) ?_)
    exact rjsup_ret _ (w.heap.size + 1) _ (a1.tmod 2) X 0 _ rfl rfl (setRow_heap _ _ _ _ _ _ g3) ⟨by simp, HP3.out _⟩
  · have hE1 : (E != 0) = true := by simpa using hE
    go_wp2_with (refine wpList_store_row rfl 68 _ _ rfl (w.heap.size + 1) #[.int .i64 0, .string ⟨#[]⟩] rfl rfl 68 _ g3 (by kernel_rfl) rfl (by simp [Value.oneCell']) ?_)
    exact rjsup_ret _ (w.heap.size + 1) _ 0 ⟨#[]⟩ E _ rfl rfl (setRow_heap _ _ _ _ _ _ g3) ⟨by simp, HP3.out _⟩
/-- A superblock whose fields are numbers of type int. -/
structure Sp.Ok (s : Sp) : Prop where
  vol : IsInt s.vol
  ep : IsInt s.ep
  nx : IsInt s.nx
  lv : IsInt s.lv
theorem isInt_le {a : Int} (h : IsInt a) : -9223372036854775808 ≤ a ∧ a ≤ 9223372036854775807 := by
  simp [IsInt, Lit.wf, IntKind.min, IntKind.max, IntKind.signed, IntKind.bits] at h
  omega
theorem rjsuper_real {f : PF} (P : RPrims f) (K : Backs6 f) (B : Nat) (key : ByteArray) (hk : key.size = 32) (s : Sp) (hs : s.Ok) (w : World) (hp : RefR w B key) :
    Calls Tryz.prog 34 #[.pointer (some ⟨B, 0, none⟩), .agg s.arr] w fun e w' => e = .returned (.tuple #[.agg #[.int .i64 (supA s), .string (supRS f key s)], .int .i64 (supE s)]) ∧ Below w.heap.size w w' := by
  have hp0 := fun w => rsuper_any s.vol s.ep s.nx s.lv s.root (fun p hp => by
    simp [superPs] at hp
    rcases hp with rfl | rfl | rfl | rfl
    · exact (isInt_le hs.vol).2
    · exact (isInt_le hs.ep).2
    · exact (isInt_le hs.nx).2
    · exact (isInt_le hs.lv).2) w
  have hi : hdInt s.hd := by
    have h2 : IsInt (s.ep.tmod 2) := by
      have h3 := Int.tmod_lt_of_pos s.ep (show (0 : Int) < 2 by decide)
      have h4 := Int.tmod_lt_of_pos (-s.ep) (show (0 : Int) < 2 by decide)
      rw [Int.neg_tmod] at h4
      simp [IsInt, Lit.wf, IntKind.min, IntKind.max, IntKind.signed, IntKind.bits]
      omega
    have z0 : IsInt 0 := rfl
    have z1 : IsInt 1 := rfl
    exact ⟨hs.vol, h2, z1, z0, z0, z0, hs.ep, hs.ep⟩
  by_cases he : s.err = 0
  · have he' : superE s.vol s.ep s.nx s.lv s.root = 0 := he
    rw [he'] at hp0
    have e1 : supE s = bsealE s.hd s.txt := if_pos he
    have e3 : supA s = if bsealE s.hd s.txt = 0 then s.ep.tmod 2 else 0 := by unfold supA; rw [e1]
    have e4 : supRS f key s = if bsealE s.hd s.txt = 0 then brS f key s.hd s.txt else ⟨#[]⟩ := by unfold supRS; rw [e1]
    rw [e1, e3, e4]
    exact rjsup_yes (.pointer (some ⟨B, 0, none⟩)) s.vol s.ep s.nx s.lv s.root s.txt (brS f key s.hd s.txt) (bsealE s.hd s.txt) (fun w'' => Below w.heap.size w w'') w (fun w1 w2 h hb => h.trans hb) hp0 fun w1 hb =>
      (rbrseal_any P K B key hk s.hd hi s.txt w1 (hp.keep hb)).mono fun e w'' ⟨h1, h2⟩ => ⟨h1, hb.trans (h2.mono hb.size), fun k _ hk2 => h2.block k hk2, h2.size⟩
  · have he' : ¬ superE s.vol s.ep s.nx s.lv s.root = 0 := he
    have e1 : supE s = superE s.vol s.ep s.nx s.lv s.root := if_neg he
    have e3 : supA s = 0 := by unfold supA; rw [e1]; exact if_neg he'
    have e4 : supRS f key s = ⟨#[]⟩ := by unfold supRS; rw [e1]; exact if_neg he'
    rw [e1, e3, e4]
    exact rjsup_no (.pointer (some ⟨B, 0, none⟩)) s.vol s.ep s.nx s.lv s.root (superS s.vol s.ep s.nx s.lv s.root) _ w he' hp0
end Go.Proofs.YtoopaigpjefonaaGreatDoor
