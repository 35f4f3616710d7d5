/- journal's Anew on every way. · A device whose power may fail: which blocks' sectors a block may have; arithmetic, nothing of the program's calls. -/
import Derived.Test.YtoopaigpjefonaaGreatDoorMg19
import Derived.Test.YtoopaigpjefonaaGreatDoorMg16
namespace Go.Proofs.YtoopaigpjefonaaGreatDoor
set_option maxRecDepth 20000
open Go.RowKit

set_option maxHeartbeats 2000000 in
theorem anew_err (p v : Value) (a0 a1 a2 a3 : Int) (r : ByteArray) (E : Int) (hE : ¬ E = 0) (w : World) (hU : ∀ W, Below w.heap.size w W → Calls Tryz.prog 28 #[v, .agg #[.int .i64 a0, .int .i64 a1, .int .i64 a2, .int .i64 a3, .string r]] W fun e W' => e = .returned (.int .i64 E) ∧ Below W.heap.size W W') :
    Calls Tryz.prog 13 #[p, v, .agg #[.int .i64 a0, .int .i64 a1, .int .i64 a2, .int .i64 a3, .string r]] w fun e w' => e = .returned (.int .i64 E) ∧ Below w.heap.size w w' := by
  have hb0 := bel_alloc w (.cells #[.int .i64 a0, .int .i64 a1, .int .i64 a2, .int .i64 a3, .string r] 23)
  have g0 := heap_alloc_new w (.cells #[.int .i64 a0, .int .i64 a1, .int .i64 a2, .int .i64 a3, .string r] 23)
  have h1 := hU _ hb0
  have hE1 : (E != 0) = true := by simpa using hE
  have HB : Hid _ := hb0
  clear hU hb0 hE g0
  go_enter Tryz.func13, Tryz.ntmps13
  go_wp2_with fail
  refine h1.mono ?_
  rintro e w1 ⟨rfl, hb1⟩
  have HB1 : Hid (Below w.heap.size w w1) := HB.out.trans (hb1.mono HB.out.size)
  clear h1 hb1 HB
  go_wp2
  go_ret
  exact ⟨rfl, HB1.out⟩
set_option maxHeartbeats 2000000 in
theorem anew_no (p v : Value) (a0 a1 a2 a3 : Int) (r : ByteArray) (w : World) (hU : ∀ W, Below w.heap.size w W → Calls Tryz.prog 28 #[v, .agg #[.int .i64 a0, .int .i64 a1, .int .i64 a2, .int .i64 a3, .string r]] W fun e W' => e = .returned (.int .i64 0) ∧ Below W.heap.size W W')
    (hI : ∀ W, Below w.heap.size w W → Calls Tryz.prog 27 #[p, .agg #[.int .i64 a0, .int .i64 a1, .int .i64 a2, .int .i64 a3, .string r]] W fun e W' => e = .returned (.bool false) ∧ Below W.heap.size W W') :
    Calls Tryz.prog 13 #[p, v, .agg #[.int .i64 a0, .int .i64 a1, .int .i64 a2, .int .i64 a3, .string r]] w fun e w' => e = .returned (.int .i64 1) ∧ Below w.heap.size w w' := by
  have hb0 := bel_alloc w (.cells #[.int .i64 a0, .int .i64 a1, .int .i64 a2, .int .i64 a3, .string r] 23)
  have g0 := heap_alloc_new w (.cells #[.int .i64 a0, .int .i64 a1, .int .i64 a2, .int .i64 a3, .string r] 23)
  have h1 := hU _ hb0
  have HB : Hid _ := hb0
  clear hU hb0
  go_enter Tryz.func13, Tryz.ntmps13
  go_wp2_with fail
  refine h1.mono ?_
  rintro e w1 ⟨rfl, hb1⟩
  have gw := (hb1.block w.heap.size (by simp)).trans g0
  have HB1 : Hid (Below w.heap.size w w1) := HB.out.trans (hb1.mono HB.out.size)
  have h2 := hI w1 HB1.out
  have c0 : w1.cell? ⟨w.heap.size, 0, none⟩ = some (.int .i64 a0) := cell_of_row _ _ 0 _ _ _ gw
  have c1 : w1.cell? ⟨w.heap.size, 1, none⟩ = some (.int .i64 a1) := cell_of_row _ _ 1 _ _ _ gw
  have c2 : w1.cell? ⟨w.heap.size, 2, none⟩ = some (.int .i64 a2) := cell_of_row _ _ 2 _ _ _ gw
  have c3 : w1.cell? ⟨w.heap.size, 3, none⟩ = some (.int .i64 a3) := cell_of_row _ _ 3 _ _ _ gw
  have c4 : w1.cell? ⟨w.heap.size, 4, none⟩ = some (.string r) := cell_of_row _ _ 4 _ _ _ gw
  have hlt := lt_of_block gw
  have HG : Hid _ := gw
  clear h1 hb1 HB g0 gw hI
  go_wp2_with fail
  refine h2.mono ?_
  rintro e w2 ⟨rfl, hb2⟩
  have g2 := (hb2.block w.heap.size hlt).trans HG.out
  have HB2 : Hid (Below w.heap.size w w2) := HB1.out.trans (hb2.mono HB1.out.size)
  clear h2 hb2 HB1 c0 c1 c2 c3 c4 HG hlt g2
  go_wp2
  go_ret
  exact ⟨rfl, HB2.out⟩
set_option maxHeartbeats 4000000 in
theorem anew_son (p v : Value) (a0 a1 a2 a3 : Int) (r : ByteArray) (A E : Int) (R : ByteArray) (hE : ¬ E = 0) (Q : World → Prop) (w : World) (hQ : Stb w.heap.size Q) (hU : ∀ W, Below w.heap.size w W → Calls Tryz.prog 28 #[v, .agg #[.int .i64 a0, .int .i64 a1, .int .i64 a2, .int .i64 a3, .string r]] W fun e W' => e = .returned (.int .i64 0) ∧ Below W.heap.size W W')
    (hI : ∀ W, Below w.heap.size w W → Calls Tryz.prog 27 #[p, .agg #[.int .i64 a0, .int .i64 a1, .int .i64 a2, .int .i64 a3, .string r]] W fun e W' => e = .returned (.bool true) ∧ Below W.heap.size W W')
    (hO : ∀ W, Below w.heap.size w W → Calls Tryz.prog 29 #[p, v, .agg #[.int .i64 a0, .int .i64 a1, .int .i64 a2, .int .i64 a3, .string r]] W fun e W' => e = .returned (.tuple #[.agg #[.int .i64 A, .string R], .int .i64 E]) ∧ Q W' ∧ w.heap.size ≤ W'.heap.size) :
    Calls Tryz.prog 13 #[p, v, .agg #[.int .i64 a0, .int .i64 a1, .int .i64 a2, .int .i64 a3, .string r]] w fun e w' => e = .returned (.int .i64 E) ∧ Q w' := by
  have hb0 := bel_alloc w (.cells #[.int .i64 a0, .int .i64 a1, .int .i64 a2, .int .i64 a3, .string r] 23)
  have g0 := heap_alloc_new w (.cells #[.int .i64 a0, .int .i64 a1, .int .i64 a2, .int .i64 a3, .string r] 23)
  have h1 := hU _ hb0
  have hE1 : (E != 0) = true := by simpa using hE
  have HB : Hid _ := hb0
  clear hU hb0 hE
  go_enter Tryz.func13, Tryz.ntmps13
  go_wp2_with fail
  refine h1.mono ?_
  rintro e w1 ⟨rfl, hb1⟩
  have gw := (hb1.block w.heap.size (by simp)).trans g0
  have HB1 : Hid (Below w.heap.size w w1) := HB.out.trans (hb1.mono HB.out.size)
  have h2 := hI w1 HB1.out
  have c0 : w1.cell? ⟨w.heap.size, 0, none⟩ = some (.int .i64 a0) := cell_of_row _ _ 0 _ _ _ gw
  have c1 : w1.cell? ⟨w.heap.size, 1, none⟩ = some (.int .i64 a1) := cell_of_row _ _ 1 _ _ _ gw
  have c2 : w1.cell? ⟨w.heap.size, 2, none⟩ = some (.int .i64 a2) := cell_of_row _ _ 2 _ _ _ gw
  have c3 : w1.cell? ⟨w.heap.size, 3, none⟩ = some (.int .i64 a3) := cell_of_row _ _ 3 _ _ _ gw
  have c4 : w1.cell? ⟨w.heap.size, 4, none⟩ = some (.string r) := cell_of_row _ _ 4 _ _ _ gw
  have hlt := lt_of_block gw
  have HG : Hid _ := gw
  clear h1 hb1 HB g0 gw hI
  go_wp2_with fail
  refine h2.mono ?_
  rintro e w2 ⟨rfl, hb2⟩
  have g2 := (hb2.block w.heap.size hlt).trans HG.out
  have HB2 : Hid (Below w.heap.size w w2) := HB1.out.trans (hb2.mono HB1.out.size)
  have h3 := hO w2 HB2.out
  clear h2 hb2 HB1 c0 c1 c2 c3 c4 hO HG hlt
  have c0 : w2.cell? ⟨w.heap.size, 0, none⟩ = some (.int .i64 a0) := cell_of_row _ _ 0 _ _ _ g2
  have c1 : w2.cell? ⟨w.heap.size, 1, none⟩ = some (.int .i64 a1) := cell_of_row _ _ 1 _ _ _ g2
  have c2 : w2.cell? ⟨w.heap.size, 2, none⟩ = some (.int .i64 a2) := cell_of_row _ _ 2 _ _ _ g2
  have c3 : w2.cell? ⟨w.heap.size, 3, none⟩ = some (.int .i64 a3) := cell_of_row _ _ 3 _ _ _ g2
  have c4 : w2.cell? ⟨w.heap.size, 4, none⟩ = some (.string r) := cell_of_row _ _ 4 _ _ _ g2
  clear g2
  go_wp2_with fail
  refine h3.mono ?_
  rintro e w3 ⟨rfl, hq3, hz3⟩
  have HF : Hid (Q (w3.alloc (.cells #[.int .i64 A, .string R] 68))) := hQ _ _ hq3 ((Below.refl _ _).alloc hz3 _)
  clear h3 hq3 hz3 c0 c1 c2 c3 c4 HB2 hQ
  go_wp2
  go_ret
  exact ⟨rfl, HF.out⟩
set_option maxHeartbeats 4000000 in
theorem anew_in (K : VK) (HK : VKOk K) (F : Nat → Prop) (B : Nat) (P : PS) (S2 : K.σ) (v : Value) (a0 a1 a2 a3 : Int) (r : ByteArray) (A : Int) (R : ByteArray) (w : World) (hg : ErrT w) (hF : ¬ F 3) (hltF : ∀ k, F k → k < w.heap.size) (hw : P.wait.length ≤ 100000) (hU : ∀ W, Below w.heap.size w W → Calls Tryz.prog 28 #[v, .agg #[.int .i64 a0, .int .i64 a1, .int .i64 a2, .int .i64 a3, .string r]] W fun e W' => e = .returned (.int .i64 0) ∧ Below W.heap.size W W')
    (hI : ∀ W, Below w.heap.size w W → Calls Tryz.prog 27 #[.pointer (some ⟨B, 0, none⟩), .agg #[.int .i64 a0, .int .i64 a1, .int .i64 a2, .int .i64 a3, .string r]] W fun e W' => e = .returned (.bool true) ∧ Below W.heap.size W W')
    (hO : ∀ W, Below w.heap.size w W → Calls Tryz.prog 29 #[.pointer (some ⟨B, 0, none⟩), v, .agg #[.int .i64 a0, .int .i64 a1, .int .i64 a2, .int .i64 a3, .string r]] W fun e W' => e = .returned (.tuple #[.agg #[.int .i64 A, .string R], .int .i64 0]) ∧ (Duo K W' F B P S2 ∧ Touch F w W')) :
    Calls Tryz.prog 13 #[.pointer (some ⟨B, 0, none⟩), v, .agg #[.int .i64 a0, .int .i64 a1, .int .i64 a2, .int .i64 a3, .string r]] w fun e w' => e = .returned (.int .i64 (ansE (folE [[⟨A, R⟩]] P))) ∧ Duo K w' (grow F w w') B (folP [[⟨A, R⟩]] P) S2 ∧ Touch F w w' := by
  have hb0 := bel_alloc w (.cells #[.int .i64 a0, .int .i64 a1, .int .i64 a2, .int .i64 a3, .string r] 23)
  have g0 := heap_alloc_new w (.cells #[.int .i64 a0, .int .i64 a1, .int .i64 a2, .int .i64 a3, .string r] 23)
  have h1 := hU _ hb0
  have HB : Hid _ := hb0
  have hans := answer_any (folE [[⟨A, R⟩]] P)
  have HH : Hid (ErrT w ∧ ¬ F 3 ∧ (∀ k, F k → k < w.heap.size) ∧ P.wait.length ≤ 100000) := ⟨hg, hF, hltF, hw⟩
  clear hU hb0 hg hF hltF hw
  go_enter Tryz.func13, Tryz.ntmps13
  go_wp2_with fail
  refine h1.mono ?_
  rintro e w1 ⟨rfl, hb1⟩
  have gw := (hb1.block w.heap.size (by simp)).trans g0
  have HB1 : Hid (Below w.heap.size w w1) := HB.out.trans (hb1.mono HB.out.size)
  have h2 := hI w1 HB1.out
  have c0 : w1.cell? ⟨w.heap.size, 0, none⟩ = some (.int .i64 a0) := cell_of_row _ _ 0 _ _ _ gw
  have c1 : w1.cell? ⟨w.heap.size, 1, none⟩ = some (.int .i64 a1) := cell_of_row _ _ 1 _ _ _ gw
  have c2 : w1.cell? ⟨w.heap.size, 2, none⟩ = some (.int .i64 a2) := cell_of_row _ _ 2 _ _ _ gw
  have c3 : w1.cell? ⟨w.heap.size, 3, none⟩ = some (.int .i64 a3) := cell_of_row _ _ 3 _ _ _ gw
  have c4 : w1.cell? ⟨w.heap.size, 4, none⟩ = some (.string r) := cell_of_row _ _ 4 _ _ _ gw
  have hlt := lt_of_block gw
  have HG : Hid _ := gw
  clear h1 hb1 HB g0 gw hI
  go_wp2_with fail
  refine h2.mono ?_
  rintro e w2 ⟨rfl, hb2⟩
  have g2 := (hb2.block w.heap.size hlt).trans HG.out
  have HB2 : Hid (Below w.heap.size w w2) := HB1.out.trans (hb2.mono HB1.out.size)
  have h3 := hO w2 HB2.out
  clear h2 hb2 HB1 c0 c1 c2 c3 c4 hO HG hlt
  have c0 : w2.cell? ⟨w.heap.size, 0, none⟩ = some (.int .i64 a0) := cell_of_row _ _ 0 _ _ _ g2
  have c1 : w2.cell? ⟨w.heap.size, 1, none⟩ = some (.int .i64 a1) := cell_of_row _ _ 1 _ _ _ g2
  have c2 : w2.cell? ⟨w.heap.size, 2, none⟩ = some (.int .i64 a2) := cell_of_row _ _ 2 _ _ _ g2
  have c3 : w2.cell? ⟨w.heap.size, 3, none⟩ = some (.int .i64 a3) := cell_of_row _ _ 3 _ _ _ g2
  have c4 : w2.cell? ⟨w.heap.size, 4, none⟩ = some (.string r) := cell_of_row _ _ 4 _ _ _ g2
  clear g2
  go_wp2_with fail
  refine h3.mono ?_
  rintro e w3 ⟨rfl, hd3, ht3⟩
  have HD : Hid (Duo K w3 F B P S2 ∧ Touch F w w3) := ⟨hd3, ht3⟩
  clear h3 hd3 ht3 c0 c1 c2 c3 c4 HB2
  have HA : Hid (Below w3.heap.size w3 ((w3.alloc (.cells #[.int .i64 A, .string R] 68)).alloc (.cells #[.int .i64 A, .string R] 68))) := ba (bel_alloc w3 _)
  go_wp2_with fail
  refine (follow_1 K HK F B P S2 _ _ [⟨A, R⟩] _ _ 1 ?_ (HD.out.1.below HK HA.out) ?_ ?_ HH.out.2.1 ⟨?_, fun _ => ?_⟩).mono ?_
  · simp
  · show P.wait.length + 8 * 1 ≤ 900000
    have := HH.out.2.2.2
    omega
  · exact (HH.out.1.touch HD.out.2 HH.out.2.1).bel HA.out
  · exact wts_new1 _ _ _ _ _ _ (by simp)
  · exact out_of (fun hk => by have q := HH.out.2.2.1 _ hk; have q2 := HD.out.2.size; omega)
  · rintro e wF ⟨⟨fv, rfl, hrv⟩, hdF, htF⟩
    have HFin : Hid _ := duo_fin HD.out.2 HH.out.2.2.1 (ba HA.out) hdF htF
    have h5 := hans _ hrv wF
    clear hdF htF HD HA HH hans hrv
    go_wp2_with fail
    refine h5.mono ?_
    rintro e wG ⟨rfl, hG⟩
    have HG : Hid _ := duo_step HK HFin.out hG
    clear h5 hG HFin
    go_wp2
    go_ret
    exact ⟨rfl, HG.out⟩
/-- What Anew ends with, and what it leaves. -/
def anE (K : VK) (P : PS) (S : K.σ) (s : Sp) : Int := if s.err = 0 then if fmOk P s then if supE s = 0 then ansE (folE [[⟨supA s, supR K S s⟩]] P) else supE s else 1 else s.err
def anP (K : VK) (P : PS) (S : K.σ) (s : Sp) : PS := if s.err = 0 then if fmOk P s then if supE s = 0 then folP [[⟨supA s, supR K S s⟩]] P else P else P else P
def anS (K : VK) (P : PS) (S : K.σ) (s : Sp) : K.σ := if s.err = 0 then if fmOk P s then supP K S s else S else S
theorem anew_all (K : VK) (HK : VKOk K) (F : Nat → Prop) (B : Nat) (P : PS) (S : K.σ) (s : Sp) (w : World) (h : Duo K w F B P S) (hr : K.room S 1) (hup : P.up = true) (hw : P.wait.length ≤ 100000) (hg : ErrT w) (hF : ¬ F 3) :
    Calls Tryz.prog 13 #[.pointer (some ⟨B, 0, none⟩), K.v, .agg s.arr] w fun e w' => e = .returned (.int .i64 (anE K P S s)) ∧ Duo K w' (grow F w w') B (anP K P S s) (anS K P S s) ∧ Touch F w w' := by
  have hlt := h.lt
  have hI := fun W (hW : Below w.heap.size w W) => isOf_duo K HK F B P S s W (h.below HK hW)
  have hU := fun W (hW : Below w.heap.size w W) => unseal_duo K HK F B P S s W (h.below HK hW) (HK.less hr (by omega))
  have same : ∀ {w' : World}, Below w.heap.size w w' → Duo K w' (grow F w w') B P S ∧ Touch F w w' := fun hb => ⟨(h.below HK hb).mono (fun _ h => .inl h) fun k hk => by
    rcases hk with hk | hk
    · exact Nat.lt_of_lt_of_le (hlt k hk) hb.size
    · exact hk.2, Touch.of_below hb⟩
  unfold anE anP anS
  by_cases he : s.err = 0
  case neg =>
    rw [if_neg he, if_neg he, if_neg he]
    exact (anew_err (.pointer (some ⟨B, 0, none⟩)) K.v s.vol s.ep s.nx s.lv s.root s.err he w hU).mono fun e w' ⟨he, hb⟩ => ⟨he, (same hb).1, (same hb).2⟩
  rw [he] at hU
  rw [if_pos he, if_pos he, if_pos he]
  cases hf : fmOk P s with
  | false =>
    have hf2 := hf
    unfold fmOk at hf2
    rw [hf2] at hI
    exact (anew_no (.pointer (some ⟨B, 0, none⟩)) K.v s.vol s.ep s.nx s.lv s.root w hU hI).mono fun e w' ⟨he, hb⟩ => ⟨he, (same hb).1, (same hb).2⟩
  | true =>
    have hf2 := hf
    unfold fmOk at hf2
    rw [hf2] at hI
    rw [if_pos rfl, if_pos rfl, if_pos rfl]
    have eE : sonE P s = supE s := by unfold sonE; rw [if_pos hup]
    have eA : sonA P s = supA s := by unfold sonA; rw [if_pos hup]
    have eR : sonR K P S s = supR K S s := by unfold sonR; rw [if_pos hup]
    have eS : sonS K P S s = supP K S s := by unfold sonS; rw [if_pos hup]
    have hO : ∀ W, Below w.heap.size w W → Calls Tryz.prog 29 #[.pointer (some ⟨B, 0, none⟩), K.v, .agg s.arr] W fun e W' => e = .returned (.tuple #[.agg #[.int .i64 (supA s), .string (supR K S s)], .int .i64 (supE s)]) ∧ (Duo K W' F B P (supP K S s) ∧ Touch F w W') := fun W hW => by
      have q := superOn_any K HK F B P S s W (h.below HK hW) hr
      rw [eE, eS, eA, eR] at q
      exact q.mono fun e W' ⟨a, b, c⟩ => ⟨a, b, (Touch.of_below hW).trans (c.mono fun _ h => .inl h)⟩
    by_cases hs : supE s = 0
    case neg =>
      rw [if_neg hs, if_neg hs]
      exact (anew_son (.pointer (some ⟨B, 0, none⟩)) K.v s.vol s.ep s.nx s.lv s.root (supA s) (supE s) (supR K S s) hs (fun W => Duo K W F B P (supP K S s) ∧ Touch F w W) w (duo_stb HK hlt) hU hI fun W hW => (hO W hW).mono fun e W' ⟨a, b⟩ => ⟨a, b, b.2.size⟩).mono fun e w' ⟨a, b, c⟩ => ⟨a, b.mono (fun _ h => .inl h) fun k hk => by
        rcases hk with hk | hk
        · exact b.lt k hk
        · exact hk.2, c⟩
    rw [if_pos hs, if_pos hs]
    rw [hs] at hO
    exact anew_in K HK F B P (supP K S s) K.v s.vol s.ep s.nx s.lv s.root (supA s) (supR K S s) w hg hF hlt hw hU hI hO
end Go.Proofs.YtoopaigpjefonaaGreatDoor

namespace Go.Proofs.YtoopaigpjefonaaGreatDoor
set_option maxRecDepth 20000
open Go.RowKit

/-- Each sector of a block, as it is kept and in each write that waits, is that of one of some blocks. -/
structure Mix (S : PS) (a : Nat) (R : List ByteArray) : Prop where
  lt : 8 * a + 8 ≤ S.kept.length
  kept : ∀ i, i < 8 → ∃ r, r ∈ R ∧ S.kept[8 * a + i]? = some (secS r i)
  wait : ∀ i t, i < 8 → (8 * a + i, t) ∈ S.wait → ∃ r, r ∈ R ∧ t = secS r i
theorem Mix.more {S : PS} {a : Nat} {R R' : List ByteArray} (h : Mix S a R) (hR : ∀ r, r ∈ R → r ∈ R') : Mix S a R' :=
  ⟨h.lt, fun i hi => by obtain ⟨r, h1, h2⟩ := h.kept i hi; exact ⟨r, hR r h1, h2⟩, fun i t hi ht => by obtain ⟨r, h1, h2⟩ := h.wait i t hi ht; exact ⟨r, hR r h1, h2⟩⟩
theorem Mix.alike {S S' : PS} {a : Nat} {R : List ByteArray} (h : Mix S a R) (k : Alike S S') : Mix S' a R :=
  ⟨by rw [k.2.1]; exact h.lt, fun i hi => by rw [k.2.1]; exact h.kept i hi, fun i t hi ht => by rw [k.2.2.1] at ht; exact h.wait i t hi ht⟩
theorem mix_write {S : PS} {a : Nat} {R : List ByteArray} (h : Mix S a R) (k : Int) (t : ByteArray) (hk : ∀ i, i < 8 → k = ((8 * a + i : Nat) : Int) → ∃ r, r ∈ R ∧ t = secS r i) : Mix (writeP S k t) a R := by
  unfold writeP
  by_cases h1 : t.size = 64
  case neg => rw [if_neg h1]; exact h
  rw [if_pos h1]
  by_cases h2 : S.up = true
  case neg => rw [if_neg h2]; exact h
  rw [if_pos h2]
  by_cases h3 : hasB S k = true
  case neg => rw [if_neg h3]; exact h
  rw [if_pos h3]
  by_cases h4 : S.fuse = 0
  · rw [if_pos h4]
    exact ⟨h.lt, h.kept, h.wait⟩
  · rw [if_neg h4]
    refine ⟨h.lt, h.kept, fun i u hi hu => ?_⟩
    have hu : (8 * a + i, u) ∈ S.wait ++ [(k.toNat, t)] := hu
    rw [List.mem_append, List.mem_singleton] at hu
    rcases hu with hu | hu
    · exact h.wait i u hi hu
    · have h5 := hasB_true h3
      simp only [Prod.mk.injEq] at hu
      obtain ⟨e1, rfl⟩ := hu
      exact hk i hi (by omega)
theorem mix_putGo {a : Nat} {R : List ByteArray} (r : ByteArray) (b : Nat) (hb : b = a → r ∈ R) : ∀ (n j : Nat) (S : PS), j + n ≤ 8 → Mix S a R → Mix (putGo r b n j S).2 a R
  | 0, _, _, _, h => h
  | n + 1, j, S, hj, h => by
    have h2 : Mix (writeP S ((8 * b + j : Nat) : Int) (secS r j)) a R := mix_write h _ _ fun i hi e => by
      have e2 : b = a ∧ j = i := by omega
      obtain ⟨rfl, rfl⟩ := e2
      exact ⟨r, hb rfl, rfl⟩
    unfold putGo
    split
    · exact mix_putGo r b hb n (j + 1) _ (by omega) h2
    · exact h2
theorem mix_put {S : PS} {a : Nat} {R : List ByteArray} (h : Mix S a R) (k : Int) (r : ByteArray) (hk : k = (a : Int) → r ∈ R) : Mix (bputP S k r) a R := by
  unfold bputP
  split
  · split
    · next hB =>
      have h0 : 0 ≤ k := by simp [bhasB] at hB; omega
      exact mix_putGo r _ (fun e => hk (by omega)) 8 0 S (by omega) h
    · exact h
  · exact h
theorem mix_kept {S : PS} {a : Nat} {R : List ByteArray} (h : Mix S a R) (f : Nat → Bool) : ∀ j, j ≤ S.wait.length → ∀ i, i < 8 → ∃ r, r ∈ R ∧ (keptAt f S.wait S.kept j)[8 * a + i]? = some (secS r i)
  | 0, _, i, hi => h.kept i hi
  | j + 1, hj, i, hi => by
    obtain ⟨r, h1, h2⟩ := mix_kept h f j (by omega) i hi
    obtain ⟨p, hp⟩ : ∃ p, S.wait[j]? = some p := ⟨_, List.getElem?_eq_getElem (by omega)⟩
    obtain ⟨k, s⟩ := p
    rw [keptAt_step hp]
    by_cases hf : f j = true
    · rw [if_pos hf]
      by_cases e : k = 8 * a + i
      · subst e
        obtain ⟨r', h3, h4⟩ := h.wait i s hi (List.mem_of_getElem? hp)
        refine ⟨r', h3, ?_⟩
        rw [List.getElem?_set_self (by rw [keptAt_length]; have := h.lt; omega), h4]
      · exact ⟨r, h1, by rw [List.getElem?_set_ne e]; exact h2⟩
    · rw [if_neg hf]
      exact ⟨r, h1, h2⟩
theorem mix_settle {S : PS} {a : Nat} {R : List ByteArray} (h : Mix S a R) (f : Nat → Bool) : Mix (settleP f S) a R :=
  ⟨by show _ ≤ (keptAt _ _ _ _).length; rw [keptAt_length]; exact h.lt, fun i hi => mix_kept h f _ (Nat.le_refl _) i hi, fun i t _ ht => by cases ht⟩
theorem mix_flush {S : PS} {a : Nat} {R : List ByteArray} (h : Mix S a R) : Mix (flushP S) a R := by
  unfold flushP
  split
  · exact mix_settle h _
  · exact h
theorem mix_start {S : PS} {a : Nat} {R : List ByteArray} (h : Mix S a R) (l : List Bool) : Mix (startP l S) a R := by
  have q := mix_settle h (lastsB l)
  exact ⟨q.lt, q.kept, q.wait⟩
theorem mix_arm {S : PS} {a : Nat} {R : List ByteArray} (h : Mix S a R) (n : Int) : Mix (armP S n) a R := by
  unfold armP
  split
  · exact h
  · split
    · exact ⟨h.lt, h.kept, h.wait⟩
    · exact h
theorem mix_take {a : Nat} {R : List ByteArray} : ∀ (l : List Wt) {S : PS}, Mix S a R → (∀ x, x ∈ l → x.at_ = (a : Int) → x.raw ∈ R) → Mix (takeP l S) a R
  | [], S, h, _ => mix_flush h
  | x :: l, S, h, hl => by
    have h2 := mix_put h x.at_ x.raw (hl x (List.mem_cons_self ..))
    unfold takeP
    split
    · exact mix_take l h2 fun y hy => hl y (List.mem_cons_of_mem _ hy)
    · exact h2

/-- What was done, if it was told to be. -/
theorem write_ok {S : PS} {k : Int} {t : ByteArray} (h : writeE S k t = 0) : t.size = 64 ∧ S.up = true ∧ hasB S k = true ∧ ∃ f w', writeP S k t = { S with fuse := f, writes := w', wait := S.wait ++ [(k.toNat, t)] } := by
  unfold writeE at h
  by_cases h1 : t.size = 64
  case neg => rw [if_neg h1] at h; exact absurd h (by decide)
  rw [if_pos h1] at h
  by_cases h2 : S.up = true
  case neg => rw [if_neg h2] at h; exact absurd h (by decide)
  rw [if_pos h2] at h
  by_cases h3 : hasB S k = true
  case neg => rw [if_neg h3] at h; exact absurd h (by decide)
  rw [if_pos h3] at h
  by_cases h4 : S.fuse = 0
  case pos => rw [if_pos h4] at h; exact absurd h (by decide)
  exact ⟨h1, h2, h3, (if S.fuse = -1 then -1 else S.fuse - 1), wrap64 (S.writes + 1), by unfold writeP; rw [if_pos h1, if_pos h2, if_pos h3, if_neg h4]⟩
theorem putGo_ok (r : ByteArray) (a : Nat) : ∀ (n j : Nat) (S : PS), (putGo r a n j S).1 = 0 → ∃ f w', (putGo r a n j S).2 = { S with fuse := f, writes := w', wait := S.wait ++ secsW r a j n }
  | 0, j, S, _ => ⟨S.fuse, S.writes, by simp [putGo, secsW]⟩
  | n + 1, j, S, h => by
    unfold putGo at h ⊢
    by_cases h0 : writeE S ((8 * a + j : Nat) : Int) (secS r j) = 0
    · rw [if_pos h0] at h ⊢
      obtain ⟨_, _, _, f, w', e⟩ := write_ok h0
      rw [e] at h ⊢
      obtain ⟨f2, w2, e2⟩ := putGo_ok r a n (j + 1) _ h
      refine ⟨f2, w2, ?_⟩
      rw [e2]
      simp [secsW]
      omega
    · rw [if_neg h0] at h
      exact absurd h h0
theorem bput_ok {S : PS} {k : Int} {r : ByteArray} (h : bputE S k r = 0) : r.size = 512 ∧ S.up = true ∧ ∃ a : Nat, k = (a : Int) ∧ 8 * a + 8 ≤ S.kept.length ∧ ∃ f w', bputP S k r = { S with fuse := f, writes := w', wait := S.wait ++ secsW r a 0 8 } := by
  unfold bputE at h
  by_cases h1 : r.size = 512
  case neg => rw [if_neg h1] at h; exact absurd h (by decide)
  rw [if_pos h1] at h
  by_cases h2 : bhasB S k = true
  case neg => rw [if_neg h2] at h; exact absurd h (by decide)
  rw [if_pos h2] at h
  have h3 := of_decide_eq_true h2
  obtain ⟨f, w', e⟩ := putGo_ok r _ 8 0 S h
  refine ⟨h1, ?_, k.toNat, by omega, by omega, f, w', by unfold bputP; rw [if_pos h1, if_pos h2, e]⟩
  unfold putGo at h
  by_cases h0 : writeE S ((8 * k.toNat + 0 : Nat) : Int) (secS r 0) = 0
  · exact (write_ok h0).2.1
  · rw [if_neg h0] at h
    exact absurd h h0
theorem put_sees {S : PS} {k : Int} {r : ByteArray} (h : bputE S k r = 0) : (bputP S k r).up = true ∧ (bputP S k r).kept = S.kept ∧ ∃ a : Nat, k = (a : Int) ∧ Seen (bputP S k r) a r ∧ ∀ b x, b ≠ a → Seen S b x → Seen (bputP S k r) b x := by
  obtain ⟨_, h2, a, h3, h4, f, w', e⟩ := bput_ok h
  rw [e]
  refine ⟨h2, rfl, a, h3, ⟨h4, fun i hi => ?_⟩, fun b x hb hx => ⟨hx.lt, fun i hi => ?_⟩⟩
  · show (textOf (S.wait ++ secsW r a 0 8) (8 * a + i)).or S.kept[8 * a + i]? = _
    rw [textOf_append, textOf_secs, if_pos (by omega)]
    rfl
  · show (textOf (S.wait ++ secsW r a 0 8) (8 * b + i)).or S.kept[8 * b + i]? = _
    rw [textOf_append, textOf_other r b a hb 8 0 i (by omega) hi]
    exact hx.sec i hi
theorem flush_ok {S : PS} (h : flushE S = 0) : S.up = true ∧ (flushP S).up = true ∧ (flushP S).wait = [] ∧ (flushP S).kept.length = S.kept.length ∧ ∀ b x, Seen S b x → Seen (flushP S) b x := by
  unfold flushE at h
  by_cases hu : S.up = true
  case neg => rw [if_neg hu] at h; exact absurd h (by decide)
  have e : flushP S = settleP (fun _ => true) S := by unfold flushP; rw [if_pos hu]
  have hl : (flushP S).kept.length = S.kept.length := by rw [e]; exact keptAt_length _ _ _ _
  refine ⟨hu, by rw [e]; exact hu, by rw [e]; rfl, hl, fun b x hx => ⟨by rw [hl]; exact hx.lt, fun i hi => ?_⟩⟩
  have hlt : 8 * b + i < S.kept.length := by have := hx.lt; omega
  obtain ⟨h1, _, h3, _⟩ := flush_kept S hu (8 * b + i) hlt
  have hs := hx.sec i hi
  rw [h3, h1]
  show some _ = _
  rw [List.getElem?_eq_getElem hlt] at hs
  cases ht : textOf S.wait (8 * b + i) with
  | none => rw [ht] at hs; exact hs
  | some t => rw [ht] at hs; exact hs
theorem take_ok : ∀ (l : List Wt) {S : PS}, takeE l S = 0 → (takeP l S).up = true ∧ (takeP l S).wait = [] ∧ ∀ b x, SeenL l S b x → Seen (takeP l S) b x
  | [], S, h => by
    obtain ⟨_, h2, h3, _, h4⟩ := flush_ok h
    exact ⟨h2, h3, fun b x hx => h4 b x hx⟩
  | y :: l, S, h => by
    unfold takeE at h
    by_cases p1 : bputE S y.at_ y.raw = 0
    case neg => rw [if_neg p1] at h; exact absurd h p1
    rw [if_pos p1] at h
    obtain ⟨_, _, a, ea, p3, p4⟩ := put_sees p1
    obtain ⟨q2, q3, q4⟩ := take_ok l h
    unfold takeP
    rw [if_pos p1]
    refine ⟨q2, q3, fun b x hx => q4 b x ?_⟩
    unfold SeenL at hx ⊢
    rw [lastW, ea] at hx
    cases hl : lastW l (b : Int) with
    | some r => rw [hl] at hx; exact hx
    | none =>
      rw [hl] at hx
      show Seen _ b x
      by_cases e : (a : Int) = (b : Int)
      · rw [if_pos e] at hx
        have hx : y.raw = x := hx
        have e' : a = b := by omega
        subst e'
        rw [← hx]
        exact p3
      · rw [if_neg e] at hx
        exact p4 b x (fun h => e (by rw [h])) hx
theorem seen_mix {S : PS} {a : Nat} {r : ByteArray} (hw : S.wait = []) (h : Seen S a r) : Mix S a [r] :=
  ⟨h.lt, fun i hi => ⟨r, List.mem_singleton.2 rfl, by have q := h.sec i hi; rw [hw] at q; exact q⟩, fun i t _ ht => by rw [hw] at ht; cases ht⟩
theorem take_solid {l : List Wt} {S : PS} (h : takeE l S = 0) {a : Nat} {r : ByteArray} (hl : lastW l (a : Int) = some r) : Mix (takeP l S) a [r] := by
  obtain ⟨_, h2, h3⟩ := take_ok l h
  refine seen_mix h2 (h3 a r ?_)
  unfold SeenL
  rw [hl]
theorem take_kept (l : List Wt) (S : PS) : (takeP l S).kept.length = S.kept.length := by
  induction l generalizing S with
  | nil =>
    show (flushP S).kept.length = _
    unfold flushP
    split
    · exact keptAt_length _ _ _ _
    · rfl
  | cons x l ih =>
    have h := (bput_wait S x.at_ x.raw).2
    unfold takeP
    split
    · rw [ih, h]
    · exact h
theorem fol_kept (ls : List (List Wt)) (S : PS) : (folP ls S).kept.length = S.kept.length := by
  induction ls generalizing S with
  | nil => rfl
  | cons l ls ih =>
    unfold folP
    split
    · rw [ih, take_kept]
    · exact take_kept l S
theorem mix_fol {a : Nat} {R : List ByteArray} : ∀ (ls : List (List Wt)) {S : PS}, Mix S a R → (∀ l, l ∈ ls → ∀ x, x ∈ l → x.at_ = (a : Int) → x.raw ∈ R) → Mix (folP ls S) a R
  | [], _, h, _ => h
  | l :: ls, S, h, hl => by
    have h2 := mix_take l h (hl l (List.mem_cons_self ..))
    unfold folP
    split
    · exact mix_fol ls h2 fun m hm => hl m (List.mem_cons_of_mem _ hm)
    · exact h2

/-- What is seen of a block, sector by sector. -/
def visS (S : PS) (k : Nat) : ByteArray := (textOf S.wait k).getD (S.kept.getD k ⟨#[]⟩)
def catB (f : Nat → ByteArray) : Nat → ByteArray
  | 0 => ⟨#[]⟩
  | n + 1 => catB f n ++ f n
theorem catB_size {f : Nat → ByteArray} : ∀ n, (∀ i, i < n → (f i).size = 64) → (catB f n).size = 64 * n
  | 0, _ => rfl
  | n + 1, h => by
    rw [catB, ByteArray.size_append, catB_size n fun i hi => h i (by omega), h n (by omega)]
    omega
theorem secS_left {x y : ByteArray} {i : Nat} (h : 64 * i + 64 ≤ x.size) : secS (x ++ y) i = secS x i := by
  unfold secS
  apply ByteArray.ext
  simp only [ByteArray.data_extract, ByteArray.data_append]
  rw [Array.extract_append]
  have e : x.data.size = x.size := rfl
  rw [show 64 * i - x.data.size = 0 by omega, show 64 * i + 64 - x.data.size = 0 by omega]
  simp
theorem catB_sec {f : Nat → ByteArray} : ∀ n, (∀ i, i < n → (f i).size = 64) → ∀ i, i < n → secS (catB f n) i = f i
  | 0, _, i, hi => absurd hi (Nat.not_lt_zero i)
  | n + 1, h, i, hi => by
    have hs := catB_size n fun i hi => h i (by omega)
    rw [catB]
    by_cases e : i = n
    · subst e
      have q := (ba_cut (a := catB f i) (b := f i) hs).2
      rw [h i (by omega)] at q
      exact q
    · rw [secS_left (by omega)]
      exact catB_sec n (fun i hi => h i (by omega)) i (by omega)
theorem catB_self (r : ByteArray) : ∀ n, catB (secS r) n = r.extract 0 (64 * n)
  | 0 => by simp [catB]; rfl
  | n + 1 => by
    rw [catB, catB_self r n]
    unfold secS
    rw [ByteArray.extract_append_extract, Nat.min_eq_left (by omega), Nat.max_eq_right (by omega)]
    rfl
theorem catB_congr {f g : Nat → ByteArray} : ∀ n, (∀ i, i < n → f i = g i) → catB f n = catB g n
  | 0, _ => rfl
  | n + 1, h => by rw [catB, catB, catB_congr n fun i hi => h i (by omega), h n (by omega)]
def blkOf (S : PS) (a : Nat) : ByteArray := catB (fun i => visS S (8 * a + i)) 8
theorem blkOf_alike {S S' : PS} (k : Alike S S') (a : Nat) : blkOf S' a = blkOf S a := by
  unfold blkOf visS
  rw [k.2.1, k.2.2.1]
theorem ctextR_mem : ∀ (l : List (Nat × ByteArray)) (k : Nat) (t : ByteArray), textR l k = some t → (k, t) ∈ l
  | [], _, _, h => by cases h
  | (a, s) :: l, k, t, h => by
    unfold textR at h
    by_cases e : a = k
    · rw [if_pos e] at h
      rw [← e, ← Option.some.inj h]
      exact List.mem_cons_self ..
    · rw [if_neg e] at h
      exact List.mem_cons_of_mem _ (ctextR_mem l k t h)
theorem textOf_mem {l : List (Nat × ByteArray)} {k : Nat} {t : ByteArray} (h : textOf l k = some t) : (k, t) ∈ l := List.mem_reverse.1 (ctextR_mem _ k t h)
theorem mix_vis {S : PS} {a : Nat} {R : List ByteArray} (h : Mix S a R) (i : Nat) (hi : i < 8) : ∃ r, r ∈ R ∧ visS S (8 * a + i) = secS r i := by
  unfold visS
  cases ht : textOf S.wait (8 * a + i) with
  | some t =>
    obtain ⟨r, h1, h2⟩ := h.wait i t hi (textOf_mem ht)
    exact ⟨r, h1, h2⟩
  | none =>
    obtain ⟨r, h1, h2⟩ := h.kept i hi
    exact ⟨r, h1, by rw [List.getD_eq_getElem?_getD, h2]; rfl⟩
theorem secS_size {r : ByteArray} (hr : r.size = 512) {i : Nat} (hi : i < 8) : (secS r i).size = 64 := by simp [secS, hr]; omega
theorem mix_blk {S : PS} {a : Nat} {R : List ByteArray} (h : Mix S a R) (hR : ∀ r, r ∈ R → r.size = 512) : (blkOf S a).size = 512 ∧ ∀ i, i < 8 → ∃ r, r ∈ R ∧ secS (blkOf S a) i = secS r i := by
  have hz : ∀ i, i < 8 → (visS S (8 * a + i)).size = 64 := fun i hi => by
    obtain ⟨r, h1, h2⟩ := mix_vis h i hi
    rw [h2]
    exact secS_size (hR r h1) hi
  refine ⟨catB_size 8 hz, fun i hi => ?_⟩
  obtain ⟨r, h1, h2⟩ := mix_vis h i hi
  exact ⟨r, h1, by unfold blkOf; rw [catB_sec 8 hz i hi]; exact h2⟩
theorem blk_one {S : PS} {a : Nat} {r : ByteArray} (h : Mix S a [r]) (hr : r.size = 512) : blkOf S a = r := by
  unfold blkOf
  rw [catB_congr (g := secS r) 8 fun i hi => by
    obtain ⟨r', h1, h2⟩ := mix_vis h i hi
    rw [List.mem_singleton] at h1
    rw [h2, h1], catB_self, show 64 * 8 = r.size from hr.symm]
  exact ByteArray.extract_zero_size
/-- A whole block that is seen, and nothing waits. -/
theorem blk_solid {S : PS} {a : Nat} {R : List ByteArray} (h : Mix S a R) (hw : S.wait = []) (hR : ∀ r, r ∈ R → r.size = 512) {r : ByteArray} (e : blkOf S a = r) : Mix S a [r] := by
  have hz : ∀ i, i < 8 → (visS S (8 * a + i)).size = 64 := fun i hi => by
    obtain ⟨r, h1, h2⟩ := mix_vis h i hi
    rw [h2]
    exact secS_size (hR r h1) hi
  refine ⟨h.lt, fun i hi => ⟨r, List.mem_singleton.2 rfl, ?_⟩, fun i t hi ht => by rw [hw] at ht; cases ht⟩
  rw [← e]
  unfold blkOf
  rw [catB_sec 8 hz i hi]
  unfold visS
  rw [hw]
  show _ = some (S.kept.getD _ _)
  rw [List.getD_eq_getElem?_getD, List.getElem?_eq_getElem (by have := h.lt; omega)]
  rfl
theorem get_blk {S : PS} {a : Nat} {R : List ByteArray} (hu : S.up = true) (h : Mix S a R) (hR : ∀ r, r ∈ R → r.size = 512) : (bget S (a : Int)).1 = (blkOf S a, 0, 0) := by
  obtain ⟨hz, _⟩ := mix_blk h hR
  have hz6 : ∀ i, i < 8 → (visS S (8 * a + i)).size = 64 := fun i hi => by
    obtain ⟨r, h1, h2⟩ := mix_vis h i hi
    rw [h2]
    exact secS_size (hR r h1) hi
  have hB : bhasB S (a : Int) = true := by have := h.lt; simp [bhasB]; omega
  unfold bget
  rw [if_pos hB, Int.toNat_natCast, getGo_all a (blkOf S a) 8 0 S ⟨#[]⟩ 0 fun i _ hi => by
    have hlt : 8 * a + i < S.kept.length := by have := h.lt; omega
    have hh : hasB S ((8 * a + i : Nat) : Int) = true := by simp [hasB]; omega
    have hv : secS (blkOf S a) i = visS S (8 * a + i) := catB_sec 8 hz6 i (by omega)
    have hv6 := hz6 i (by omega)
    rw [hv]
    unfold visS at hv6 ⊢
    unfold readE readS heldE heldS keptS
    rw [if_pos hu, if_pos hh, if_pos hu, if_pos hh]
    simp only [Int.toNat_natCast, hh, if_true]
    cases ht : textOf S.wait (8 * a + i) with
    | some t => exact ⟨rfl, rfl⟩
    | none =>
      rw [ht] at hv6
      have hv7 : (S.kept.getD (8 * a + i) ⟨#[]⟩).size = 64 := hv6
      refine ⟨?_, rfl⟩
      show (if (S.kept.getD (8 * a + i) ByteArray.empty).size = 0 then (21 : Int) else 0) = 0
      rw [if_neg (by show ¬ (S.kept.getD (8 * a + i) ⟨#[]⟩).size = 0; omega)]]
  show ((⟨#[]⟩ : ByteArray) ++ (blkOf S a).extract 0 512, _, _) = _
  rw [← hz, ByteArray.extract_zero_size]
  exact congrArg (fun x => (x, 0, 0)) ByteArray.empty_append
theorem at_blk {S : PS} {a : Nat} {R : List ByteArray} (hu : S.up = true) (h : Mix S a R) (hR : ∀ r, r ∈ R → r.size = 512) : atS (rawsTo S (S.kept.length / 8)) (masksTo S (S.kept.length / 8)) (a : Int) = blkOf S a ∧ atM (rawsTo S (S.kept.length / 8)) (masksTo S (S.kept.length / 8)) (a : Int) = 0 := by
  obtain ⟨hz, _⟩ := mix_blk h hR
  have hlt : a < S.kept.length / 8 := by have := h.lt; omega
  have hk := stA_alike S a
  have hg := get_blk (hk.1.trans hu) (h.alike hk) hR
  rw [blkOf_alike hk] at hg
  have e1 : rawA S a = blkOf S a := by unfold rawA; rw [hg, if_pos rfl]
  have e2 : maskA S a = 0 := by unfold maskA; rw [hg, if_pos rfl]; rfl
  have g1 : (rawsTo S (S.kept.length / 8)).getD ((a : Int).toNat) ⟨#[]⟩ = blkOf S a := by
    simp [rawsTo, List.getD_eq_getElem?_getD, hlt, e1]
  have g2 : (masksTo S (S.kept.length / 8)).getD ((a : Int).toNat) 0 = 0 := by
    simp [masksTo, List.getD_eq_getElem?_getD, hlt, e2]
  have hB : atB (rawsTo S (S.kept.length / 8)) (masksTo S (S.kept.length / 8)) (a : Int) = true := by
    unfold atB
    rw [g1, rawsTo_length, masksTo_length]
    simp [hz]
    omega
  unfold atS atM
  rw [if_pos hB, if_pos hB]
  exact ⟨g1, g2⟩
/-- A block of 512 bytes whose last sector is that of one of two that were sealed opens just as one of them. -/
theorem tag_tells {h g : Hd} {s t : ByteArray} {m n : Nat} (eh : h.err = 0) (eg : g.err = 0) (hs : s.size = 448) (ht : t.size = 448) (hm : m ≤ 1000000) (hn : n ≤ 1000000) (e : secS (blkS h s m) 7 = secS (blkS g t n) 7) : m = n := by
  have hx : ∀ (h : Hd) (s : ByteArray) (m : Nat), h.err = 0 → s.size = 448 → m ≤ 1000000 → (secS (blkS h s m) 7).extract 48 64 = wideS m 16 := fun h s m eh hs hm => by
    have h48 := hd_size eh
    have hw : (wideS m 16).size = 16 := wideS_size (by omega) (by decide)
    have q := (ba_cut (a := h.txt ++ s) (b := wideS m 16) (n := 496) (by rw [ByteArray.size_append, h48, hs])).2
    rw [hw, ByteArray.append_assoc] at q
    unfold secS
    rw [ByteArray.extract_extract]
    exact q
  have h1 := hx h s m eh hs hm
  have h2 := hx g t n eg ht hn
  rw [e, h2] at h1
  exact (wideS_inj (by omega) (by omega) h1).symm
end Go.Proofs.YtoopaigpjefonaaGreatDoor
