/- The law VaultMarks, called with any marks and any question, returns true, and changes nothing that was there. -/
import Derived.Test.YtfmaajfohieneaaVtArgs
namespace Go.Proofs.Ytfmaajfohieneaa
open Go.RowKit

/-- What was marked behind so many marks, and whether it was what is asked. -/
def markN (l : List OpV) : Nat → List (ByteArray × ByteArray)
  | 0 => []
  | j + 1 => addN (markN l j) ((l.getD j default).label, (l.getD j default).text)
theorem markN_length (l : List OpV) : ∀ j, (markN l j).length ≤ j
  | 0 => Nat.le_refl _
  | j + 1 => Nat.le_trans (addN_length _ _) (Nat.succ_le_succ (markN_length l j))
/-- The question: was the pair marked, and is that its tag? -/
def askB (M : List (ByteArray × ByteArray)) (x : OpV) : Bool := decide (numOf M (x.label, x.text) ≠ 0 ∧ x.tag = wideS (numOf M (x.label, x.text)) 16)
/-- One mark more: what is asked was made ahead, or is it. -/
theorem askB_step (M : List (ByteArray × ByteArray)) (a b : ByteArray) (x : OpV) :
    askB (addN M (a, b)) x = (askB M x || (decide (a = x.label) && (decide (b = x.text) && decide (wideS (numOf (addN M (a, b)) (a, b)) 16 = x.tag)))) := by
  unfold askB
  by_cases e : (a, b) = (x.label, x.text)
  · obtain ⟨rfl, rfl⟩ := Prod.mk.inj e
    have hp := numOf_add_pos M (x.label, x.text)
    by_cases h0 : numOf M (x.label, x.text) = 0
    · simp [h0, hp, eq_comm]
    · simp [h0, numOf_add_keeps _ h0, eq_comm]
  · rw [numOf_add_other e]
    have : ¬ (a = x.label ∧ b = x.text) := fun h => e (by rw [h.1, h.2])
    by_cases ha : a = x.label
    · have hb : ¬ b = x.text := fun h => this ⟨ha, h⟩
      simp [ha, hb]
    · simp [ha]
theorem made_now (M : List (ByteArray × ByteArray)) (p : ByteArray × ByteArray) (a b : ByteArray) (hp : p = (a, b)) : decide (numOf (addN M p) (a, b) ≠ 0 ∧ wideS (numOf (addN M p) (a, b)) 16 = wideS (numOf (addN M p) (a, b)) 16) = true := by
  subst hp
  simp [numOf_add_pos]
theorem beq_dec (a b : ByteArray) : (a.toList == b.toList) = decide (a = b) := by
  by_cases e : a = b
  · subst e; simp
  · rw [str_ne e]; simp [e]

set_option maxRecDepth 100000 in
set_option maxHeartbeats 4000000 in
theorem walk_vaultMarks (v0 : Value) (l : List OpV) (q : OpV) (hq : q.Ok) (w : World) (hl : OpsV w v0 l) :
    Calls Try.prog 5 #[v0, .agg q.cells.toArray] w fun e w' => e = .returned (.bool true) ∧ Below w.heap.size w w' := by
  obtain ⟨oa, ca, rfl⟩ := hl.form
  have HOK : Hid (∀ x ∈ l, x.Ok) := hl.1
  have HL : Hid (OpsV w (.slice oa l.length ca) l) := hl
  clear hl
  obtain ⟨J, hJ, hcase⟩ : ∃ J, (J ≤ l.length ∧ J ≤ 30) ∧ ((¬ (J : Int) < (l.length : Nat)) ∨ ((J : Int) < (l.length : Nat) ∧ ¬ (J : Int) < 30)) := ⟨min l.length 30, by omega, by omega⟩
  have HOP : Hid (∀ j, j < J → (∃ g o, oa = some ⟨g, o, none⟩ ∧ g < w.heap.size ∧ OpVAt w g (o + j * 6) (l.getD j default)) ∧ (l.getD j default).Ok) := fun j hj => by
    obtain ⟨g, o, e, hg, hx⟩ := HL.out.get (by omega)
    rw [List.getD_eq_getElem?_getD, List.getElem?_eq_getElem (by omega)]
    exact ⟨⟨g, o, e, hg, hx j _ (List.getElem?_eq_getElem (by omega))⟩, HOK.out _ (List.getElem_mem _)⟩
  have hQ : fitM (q.label, q.text) := ⟨hq.label, hq.text⟩
  obtain ⟨qk, qz, qa, qb, qc, qd⟩ := q
  have hQ : fitM (qb, qc) := hQ
  simp only [OpV.cells]
  clear HL HOK hq
  obtain ⟨w0, hw0⟩ : ∃ w0, w.alloc (.cells #[.int .i64 qk, .int .i64 qz, .string qa, .string qb, .string qc, .string qd] 33) = w0 := ⟨_, rfl⟩
  have r0 : w0.heap[w.heap.size]? = some (.cells #[.int .i64 qk, .int .i64 qz, .string qa, .string qb, .string qc, .string qd] 33 (0, 0)) := by rw [← hw0]; exact heap_alloc_new w _
  have hb0 : Below w.heap.size w w0 := by rw [← hw0]; exact (Below.refl w.heap.size w).alloc (Nat.le_refl _) _
  have hs0 : w0.heap.size = w.heap.size + 1 := by rw [← hw0]; simp
  rcases hcase with hcs | ⟨hcs, hcs2⟩
  all_goals
    go_enter Try.func5, Try.ntmps5
    go_wp2_with fail
    try rw [hw0]
    refine (ideal_any w0).mono ?_
    rintro e w1 ⟨B, rfl, hp, hb⟩
    have HB : Hid (Ideal w1 (fun k => w0.heap.size ≤ k ∧ k < w1.heap.size) B newV ∧ w1.heap[w.heap.size]? = some (.cells #[.int .i64 qk, .int .i64 qz, .string qa, .string qb, .string qc, .string qd] 33 (0, 0)) ∧ Below w.heap.size w w1) := ⟨hp, (hb.block _ (by omega)).trans r0, hb0.trans (hb.mono (by omega))⟩
    clear hp hb
    go_wp2_with fail
    go_loopw [6, 7] (fun u v wr => ∃ j : Nat, j ≤ J ∧ u = .bool (askB (markN l j) ⟨qk, qz, qa, qb, qc, qd⟩) ∧ v = .int .i64 j ∧ Ideal wr (fun k => w0.heap.size ≤ k ∧ k < w1.heap.size) B ⟨[], markN l j, []⟩ ∧ wr.heap[w.heap.size]? = some (.cells #[.int .i64 qk, .int .i64 qz, .string qa, .string qb, .string qc, .string qd] 33 (0, 0)) ∧ Below w.heap.size w wr ∧ w1.heap.size ≤ wr.heap.size) (fun _ v _ => J - (intOf v).toNat)
    case atStart => exact ⟨0, Nat.zero_le _, rfl, rfl, HB.out.1, HB.out.2.1, HB.out.2.2, Nat.le_refl _⟩
    case round =>
      clear HB
      obtain ⟨j, hj, rfl, rfl, hp, hr, hT, hz⟩ := hrel
      by_cases hlt : j < J
      · have j1 : (j : Int) < (l.length : Nat) := by omega
        have j2 : (j : Int) < 30 := by omega
        obtain ⟨⟨g, o, rfl, hg, hx0⟩, hok⟩ := HOP.out j hlt
        have hx := hx0.later hg hT
        have HST : Hid (markN l (j + 1) = addN (markN l j) ((l.getD j default).label, (l.getD j default).text)) := rfl
        generalize l.getD j default = x at *
        obtain ⟨k, z, a, b, c, d⟩ := x
        obtain ⟨c0, c1, c2, c3, c4, c5⟩ := hx
        simp only at c0 c1 c2 c3 c4 c5
        have hfit : fitM (b, c) := ⟨hok.label, hok.text⟩
        simp only at HST
        have hlen := markN_length l j
        have HKEY : Hid _ := askB_step (markN l j) b c ⟨qk, qz, qa, qb, qc, qd⟩
        have hX := (Below.refl wr.heap.size wr).alloc (Nat.le_refl _) (.cells #[.int .i64 k, .int .i64 z, .string a, .string b, .string c, .string d] 33)
        have hpX := hp.below hX
        have rX := heap_alloc_new wr (.cells #[.int .i64 k, .int .i64 z, .string a, .string b, .string c, .string d] 33)
        have hrX := (hX.block w.heap.size (lt_of_block hr)).trans hr
        have hTX := hT.trans (hX.mono hT.size)
        have hsX : (wr.alloc (.cells #[.int .i64 k, .int .i64 z, .string a, .string b, .string c, .string d] 33)).heap.size = wr.heap.size + 1 := by simp
        have hzw : w.heap.size < wr.heap.size := lt_of_block hr
        have hmac := vmac_any B _ ⟨[], markN l j, []⟩ b c hfit (by show (markN l j).length ≤ _; omega) _ hpX
        have hmade := fun T W hW => vmade_any B (fun k => w0.heap.size ≤ k ∧ k < w1.heap.size) ⟨[], addN (markN l j) (b, c), []⟩ b c T hfit (by have := addN_length (markN l j) (b, c); show (addN (markN l j) (b, c)).length ≤ _; omega) W hW
        have hmt : madeB ⟨[], addN (markN l j) (b, c), []⟩ b c (wideS (numOf (addN (markN l j) (b, c)) (b, c)) 16) = true := made_now _ _ _ _ rfl
        have hmS : macS ⟨[], markN l j, []⟩ b c = wideS (numOf (addN (markN l j) (b, c)) (b, c)) 16 := rfl
        have hmP : macP ⟨[], markN l j, []⟩ b c = ⟨[], addN (markN l j) (b, c), []⟩ := rfl
        rw [hmS, hmP] at hmac
        have hmade2 := hmade (wideS (numOf (addN (markN l j) (b, c)) (b, c)) 16)
        rw [hmt] at hmade2
        generalize wideS (numOf (addN (markN l j) (b, c)) (b, c)) 16 = T at *
        clear hmade hmt hmS hmP hfit hp hr hT hX
        go_wp2_with fail
        refine hmac.mono ?_
        rintro e wA ⟨rfl, hpA, htA⟩
        clear hmac
        have rA := (htA.2 wr.heap.size (by omega) (fun h => by have := h.2; omega)).trans rX
        have hrA := (htA.2 w.heap.size (by omega) (fun h => by have := h.1; omega)).trans hrX
        have hTA := hTX.trans (htA.below (B := w.heap.size) hTX.size fun k h => by have := h.1; omega)
        have hzA : wr.heap.size + 1 ≤ wA.heap.size := by have := htA.size; omega
        clear hpX rX hrX hTX htA c0 c1 c2 c3 c4 c5
        have e3 : wA.cell? ⟨wr.heap.size, 3, none⟩ = some (.string b) := cell_of_row _ _ _ _ _ _ rA
        have e4 : wA.cell? ⟨wr.heap.size, 4, none⟩ = some (.string c) := cell_of_row _ _ _ _ _ _ rA
        go_wp2_with fail
        refine (hmade2 _ hpA).mono ?_
        rintro e wB ⟨rfl, hbB⟩
        clear hmade2 e3 e4
        have hpB := hpA.below hbB
        have rB := (hbB.block _ (lt_of_block rA)).trans rA
        have hrB := (hbB.block _ (lt_of_block hrA)).trans hrA
        have hTB := hTA.trans (hbB.mono hTA.size)
        have e3 : wB.cell? ⟨wr.heap.size, 3, none⟩ = some (.string b) := cell_of_row _ _ _ _ _ _ rB
        have e4 : wB.cell? ⟨wr.heap.size, 4, none⟩ = some (.string c) := cell_of_row _ _ _ _ _ _ rB
        have q3 : wB.cell? ⟨w.heap.size, 3, none⟩ = some (.string qb) := cell_of_row _ _ _ _ _ _ hrB
        have q4 : wB.cell? ⟨w.heap.size, 4, none⟩ = some (.string qc) := cell_of_row _ _ _ _ _ _ hrB
        have q5 : wB.cell? ⟨w.heap.size, 5, none⟩ = some (.string qd) := cell_of_row _ _ _ _ _ _ hrB
        have HF : Hid (Ideal wB (fun k => w0.heap.size ≤ k ∧ k < w1.heap.size) B ⟨[], markN l (j + 1), []⟩ ∧ wB.heap[w.heap.size]? = some (.cells #[.int .i64 qk, .int .i64 qz, .string qa, .string qb, .string qc, .string qd] 33 (0, 0)) ∧ Below w.heap.size w wB ∧ w1.heap.size ≤ wB.heap.size) := ⟨by rw [HST.out]; exact hpB, hrB, hTB, by have := hbB.size; omega⟩
        clear hpA rA hrA hTA hzA hpB rB hrB hTB hbB hsX
        rw [HST.out] at HF
        have HQ : Hid (∀ X, X = askB (addN (markN l j) (b, c)) ⟨qk, qz, qa, qb, qc, qd⟩ → Value.bool X = .bool (askB (markN l (j + 1)) ⟨qk, qz, qa, qb, qc, qd⟩)) := fun X h => by rw [h, HST.out]
        generalize askB (addN (markN l j) (b, c)) ⟨qk, qz, qa, qb, qc, qd⟩ = X at *
        have HFF : Hid (Ideal wB (fun k => w0.heap.size ≤ k ∧ k < w1.heap.size) B ⟨[], markN l (j + 1), []⟩ ∧ wB.heap[w.heap.size]? = some (.cells #[.int .i64 qk, .int .i64 qz, .string qa, .string qb, .string qc, .string qd] 33 (0, 0)) ∧ Below w.heap.size w wB ∧ w1.heap.size ≤ wB.heap.size) := by rw [HST.out]; exact HF.out
        clear HF HST
        cases hw : askB (markN l j) ⟨qk, qz, qa, qb, qc, qd⟩ <;> rw [hw] at HKEY
        · by_cases e1 : b = qb
          · subst e1
            by_cases e2 : c = qc
            · subst e2
              have HR : Hid (X = (T.toList == qd.toList)) := (show X = (T.toList == qd.toList) from by rw [HKEY.out, beq_dec]; simp)
              clear HKEY
              go_wp2
              go_roundw
              case rel => exact ⟨j + 1, by omega, HQ.out _ HR.out.symm, by go_num, HFF.out⟩
              case measure => simp [intOf]; omega
            · have HR : Hid (X = false) := (show X = false from by rw [HKEY.out]; simp [e2])
              have n2 := str_ne e2
              clear HKEY
              go_wp2
              go_roundw
              case rel => exact ⟨j + 1, by omega, HQ.out _ HR.out.symm, by go_num, HFF.out⟩
              case measure => simp [intOf]; omega
          · have HR : Hid (X = false) := (show X = false from by rw [HKEY.out]; simp [e1])
            have n1 := str_ne e1
            clear HKEY
            go_wp2
            go_roundw
            case rel => exact ⟨j + 1, by omega, HQ.out _ HR.out.symm, by go_num, HFF.out⟩
            case measure => simp [intOf]; omega
        · have HR : Hid (X = true) := (show X = true from by rw [HKEY.out]; simp)
          clear HKEY
          go_wp2
          go_roundw
          case rel => exact ⟨j + 1, by omega, HQ.out _ HR.out.symm, by go_num, HFF.out⟩
          case measure => simp [intOf]; omega
      · obtain rfl : j = J := by omega
        have hlen := markN_length l j
        have hmade := vmade_any B _ ⟨[], markN l j, []⟩ qb qc qd hQ (by show (markN l j).length ≤ _; omega) wr hp
        have hmt : madeB ⟨[], markN l j, []⟩ qb qc qd = askB (markN l j) ⟨qk, qz, qa, qb, qc, qd⟩ := rfl
        rw [hmt] at hmade
        have q3 : wr.cell? ⟨w.heap.size, 3, none⟩ = some (.string qb) := cell_of_row _ _ _ _ _ _ hr
        have q4 : wr.cell? ⟨w.heap.size, 4, none⟩ = some (.string qc) := cell_of_row _ _ _ _ _ _ hr
        have q5 : wr.cell? ⟨w.heap.size, 5, none⟩ = some (.string qd) := cell_of_row _ _ _ _ _ _ hr
        generalize askB (markN l j) ⟨qk, qz, qa, qb, qc, qd⟩ = X at *
        have HT : Hid (Below w.heap.size w wr) := hT
        clear hmt hp hT hr
        go_wp2_with fail
        refine hmade.mono ?_
        rintro e wA ⟨rfl, hbA⟩
        clear hmade
        have HTA : Hid (Below w.heap.size w wA) := HT.out.trans (hbA.mono HT.out.size)
        clear HT hbA
        have hxx : (X == X) = true := by simp
        go_wp2_with fail
        refine (awake_any _).mono ?_
        rintro e wz ⟨rfl, hk⟩
        have HF : Hid (Below w.heap.size w wz) := HTA.out.trans (hk.mono HTA.out.size)
        clear hk HTA
        go_wp2
        go_ret
        exact ⟨rfl, HF.out⟩
end Go.Proofs.Ytfmaajfohieneaa
