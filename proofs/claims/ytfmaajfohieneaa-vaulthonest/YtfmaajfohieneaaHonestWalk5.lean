/- The law VaultHonest, called with any seals and any question, returns true, and changes nothing that was there. -/
import Derived.Test.YtfmaajfohieneaaHonestMath5
namespace Go.Proofs.Ytfmaajfohieneaa
open Go.RowKit

/-- The cut as the walk meets it. -/
def cutI (s : ByteArray) (z : Int) : ByteArray := cutV s z.toNat
theorem cutI_any (s : ByteArray) (z : Int) (hz : 0 ≤ z) (w : World) :
    Calls Try.prog 10 #[.string s, .int .i64 z] w fun e w' => e = .returned (.string (cutI s z)) ∧ w' = w := cutv_z s z.toNat z (by omega) w
theorem cutI_size (s : ByteArray) (n : Nat) : (cutI s n).size ≤ n := cutV_size s n
/-- What was sealed behind so many seals. -/
def sealN (l : List OpV) : Nat → List Four
  | 0 => []
  | j + 1 => if fitB (l.getD j default).salt (l.getD j default).nonce then addN (sealN l j) ⟨(l.getD j default).salt, (l.getD j default).nonce, (l.getD j default).label, cutI (l.getD j default).text 600⟩ else sealN l j
theorem sealN_length (l : List OpV) : ∀ j, (sealN l j).length ≤ j
  | 0 => Nat.le_refl _
  | j + 1 => by
    have := sealN_length l j
    unfold sealN
    split
    · exact Nat.le_trans (addN_length _ _) (by omega)
    · omega
theorem beq_dec2 (a b : ByteArray) : (a.toList == b.toList) = decide (a = b) := by
  by_cases e : a = b
  · subst e; simp
  · rw [str_ne e]; simp [e]
theorem askO_nil (z : Int) (n a q : ByteArray) : askO [] z n a q = false := by simp [askO, openB, numOf]

set_option maxRecDepth 100000 in
set_option maxHeartbeats 4000000 in
theorem walk_vaultHonest (v0 : Value) (l : List OpV) (q : OpV) (hq : q.Ok) (w : World) (hl : OpsV w v0 l) :
    Calls Try.prog 4 #[v0, .agg q.cells.toArray] w fun e w' => e = .returned (.bool true) ∧ Below w.heap.size w w' := by
  obtain ⟨oa, ca, rfl⟩ := hl.form
  have HOK : Hid (∀ x ∈ l, x.Ok) := hl.1
  have HL : Hid (OpsV w (.slice oa l.length ca) l) := hl
  clear hl
  obtain ⟨J, hJ, hcase⟩ : ∃ J, (J ≤ l.length ∧ J ≤ 30) ∧ ((¬ (J : Int) < (l.length : Nat)) ∨ ((J : Int) < (l.length : Nat) ∧ ¬ (J : Int) < 30)) := ⟨min l.length 30, by omega, by omega⟩
  have HOP : Hid (∀ j, j < J → (∃ g o, oa = some ⟨g, o, none⟩ ∧ g < w.heap.size ∧ OpVAt w g (o + j * 6) (l.getD j default)) ∧ (l.getD j default).Ok) := fun j hj => by
    obtain ⟨g, o, e, hg, hx⟩ := HL.out.get (by omega)
    rw [List.getD_eq_getElem?_getD, List.getElem?_eq_getElem (by omega)]
    exact ⟨⟨g, o, e, hg, hx j _ (List.getElem?_eq_getElem (by omega))⟩, HOK.out _ (List.getElem_mem _)⟩
  obtain ⟨qk, qz, qa, qb, qc, qd⟩ := q
  have hqz : (Lit.int .i64 qz).wf = true := hq.salt
  have hqa : qa.size ≤ 140737488355328 := hq.nonce
  have hqb : qb.size ≤ 140737488355328 := hq.label
  simp only [OpV.cells]
  clear HL HOK hq
  obtain ⟨w0, hw0⟩ : ∃ w0, w.alloc (.cells #[.int .i64 qk, .int .i64 qz, .string qa, .string qb, .string qc, .string qd] 33) = w0 := ⟨_, rfl⟩
  have r0 : w0.heap[w.heap.size]? = some (.cells #[.int .i64 qk, .int .i64 qz, .string qa, .string qb, .string qc, .string qd] 33 (0, 0)) := by rw [← hw0]; exact heap_alloc_new w _
  have hb0 : Below w.heap.size w w0 := by rw [← hw0]; exact (Below.refl w.heap.size w).alloc (Nat.le_refl _) _
  have hs0 : w0.heap.size = w.heap.size + 1 := by rw [← hw0]; simp
  have hcut := fun (s : ByteArray) (z : Int) (hz : 0 ≤ z) W => cutI_any s z hz W
  have z1 := cutI_size qc 600
  have z2 := cutI_size qd 40
  have a1 : ∀ w', (Op.stringOp .add (cutI qc 600) (cutI qd 40)).run Try.prog w' = .ok (.string (cutI qc 600 ++ cutI qd 40)) w' := fun w' => run_string_add_sum (P := Try.prog) (w := w') _ _ (by have : (cutI qc 600).size ≤ 600 := z1; have : (cutI qd 40).size ≤ 40 := z2; omega)
  have hzz : (cutI qc 600 ++ cutI qd 40).size ≤ 640 := by have : (cutI qc 600).size ≤ 600 := z1; have : (cutI qd 40).size ≤ 40 := z2; rw [ByteArray.size_append]; omega
  generalize hA : cutI qc 600 ++ cutI qd 40 = A at *
  clear hA z1 z2
  rcases hcase with hcs | ⟨hcs, hcs2⟩
  all_goals
    go_enter Try.func4, Try.ntmps4
    go_wp2_with fail
    try rw [hw0]
    refine (ideal_any w0).mono ?_
    rintro e w1 ⟨B, rfl, hp, hb⟩
    have hr1 := (hb.block _ (by omega)).trans r0
    have HB : Hid (Ideal w1 (fun k => w0.heap.size ≤ k ∧ k < w1.heap.size) B newV ∧ w1.heap[w.heap.size]? = some (.cells #[.int .i64 qk, .int .i64 qz, .string qa, .string qb, .string qc, .string qd] 33 (0, 0)) ∧ Below w.heap.size w w1) := ⟨hp, hr1, hb0.trans (hb.mono (by omega))⟩
    have q4 : w1.cell? ⟨w.heap.size, 4, none⟩ = some (.string qc) := cell_of_row _ _ _ _ _ _ hr1
    have q5 : w1.cell? ⟨w.heap.size, 5, none⟩ = some (.string qd) := cell_of_row _ _ _ _ _ _ hr1
    clear hp hb hr1
    go_wp2_with fail
    go_quiet (first | (go_at_call 10; exact Calls.quiet_of_same (hcut _ _ (by decide) _)))
    clear a1 q4 q5
    go_wp2_with fail
    go_loopw [7, 8] (fun u v wr => ∃ j : Nat, j ≤ J ∧ u = .bool (askO (sealN l j) qz qa qb A) ∧ v = .int .i64 j ∧ Ideal wr (fun k => w0.heap.size ≤ k ∧ k < w1.heap.size) B ⟨[], [], sealN l j⟩ ∧ wr.heap[w.heap.size]? = some (.cells #[.int .i64 qk, .int .i64 qz, .string qa, .string qb, .string qc, .string qd] 33 (0, 0)) ∧ Below w.heap.size w wr ∧ w1.heap.size ≤ wr.heap.size) (fun _ v _ => J - (intOf v).toNat)
    case atStart => exact ⟨0, Nat.zero_le _, by rw [show sealN l 0 = [] from rfl, askO_nil], rfl, HB.out.1.keep fun _ _ _ => rfl, HB.out.2.1, HB.out.2.2.trans ⟨rfl, rfl, rfl, Nat.le_refl _, fun _ _ => rfl⟩, Nat.le_refl _⟩
    case round =>
      clear HB
      obtain ⟨j, hj, rfl, rfl, hp, hr, hT, hz⟩ := hrel
      by_cases hlt : j < J
      · have j1 : (j : Int) < (l.length : Nat) := by omega
        have j2 : (j : Int) < 30 := by omega
        obtain ⟨⟨g, o, rfl, hg, hx0⟩, hok⟩ := HOP.out j hlt
        have hx := hx0.later hg hT
        have HST : Hid (sealN l (j + 1) = if fitB (l.getD j default).salt (l.getD j default).nonce then addN (sealN l j) ⟨(l.getD j default).salt, (l.getD j default).nonce, (l.getD j default).label, cutI (l.getD j default).text 600⟩ else sealN l j) := rfl
        generalize l.getD j default = x at *
        obtain ⟨k, z, a, b, c, d⟩ := x
        obtain ⟨c0, c1, c2, c3, c4, c5⟩ := hx
        simp only at c0 c1 c2 c3 c4 c5 HST
        have hlen := sealN_length l j
        have hcz : (cutI c 600).size ≤ 600 := cutI_size c 600
        have hcc := fun W => cutI_any c 600 (by decide) W
        have hfit : fitF ⟨z, a, b, cutI c 600⟩ := ⟨hok.salt, hok.nonce, hok.label, by show (cutI c 600).size ≤ _; omega⟩
        generalize cutI c 600 = s at *
        have hX := (Below.refl wr.heap.size wr).alloc (Nat.le_refl _) (.cells #[.int .i64 k, .int .i64 z, .string a, .string b, .string c, .string d] 33)
        have hpX := hp.below hX
        have rX := heap_alloc_new wr (.cells #[.int .i64 k, .int .i64 z, .string a, .string b, .string c, .string d] 33)
        have hrX := (hX.block w.heap.size (lt_of_block hr)).trans hr
        have hTX := hT.trans (hX.mono hT.size)
        have hsX : (wr.alloc (.cells #[.int .i64 k, .int .i64 z, .string a, .string b, .string c, .string d] 33)).heap.size = wr.heap.size + 1 := by simp
        have hzw : w.heap.size < wr.heap.size := lt_of_block hr
        have hseal := vseal_any B _ ⟨[], [], sealN l j⟩ z a b s hfit (by show (sealN l j).length ≤ _; omega) _ hpX
        clear hp hr hT hX hok hx0
        by_cases hf : fitB z a = true
        case neg =>
          have hf' : fitB z a = false := by simpa using hf
          have e1 : sealE z a = 1 := by simp [sealE, hf']
          have e2 : sealP ⟨[], [], sealN l j⟩ z a b s = ⟨[], [], sealN l j⟩ := by simp [sealP, hf']
          rw [e1, e2] at hseal
          rw [hf', if_neg (by decide)] at HST
          generalize sealS ⟨[], [], sealN l j⟩ z a b s = t at *
          clear e1 e2
          go_wp2_with fail
          refine (hcc _).mono ?_
          rintro e wC ⟨rfl, rfl⟩
          clear hcc
          go_wp2_with fail
          refine hseal.mono ?_
          rintro e wA ⟨rfl, hpA, htA⟩
          clear hseal
          have HF : Hid (Ideal wA (fun k => w0.heap.size ≤ k ∧ k < w1.heap.size) B ⟨[], [], sealN l (j + 1)⟩ ∧ wA.heap[w.heap.size]? = some (.cells #[.int .i64 qk, .int .i64 qz, .string qa, .string qb, .string qc, .string qd] 33 (0, 0)) ∧ Below w.heap.size w wA ∧ w1.heap.size ≤ wA.heap.size) := ⟨by rw [HST.out]; exact hpA, (htA.2 w.heap.size (by omega) (fun h => by have := h.1; omega)).trans hrX, hTX.trans (htA.below (B := w.heap.size) hTX.size fun k h => by have := h.1; omega), by have := htA.size; omega⟩
          have HQ : Hid (Value.bool (askO (sealN l j) qz qa qb A) = .bool (askO (sealN l (j + 1)) qz qa qb A)) := by rw [HST.out]; rfl
          clear HST hpX rX hrX hTX hsX hpA htA c0 c1 c2 c3 c4 c5
          go_wp2
          go_roundw
          case rel => exact ⟨j + 1, by omega, HQ.out, by go_num, HF.out⟩
          case measure => simp [intOf]; omega
        have HKEY : Hid _ := askO_step (sealN l j) (by omega) z a b s hf qz qa qb A
        obtain ⟨o1, o2⟩ := open_sealed (sealN l j) (by omega) z a b s hf
        have e0 : sealS ⟨[], [], sealN l j⟩ z a b s = sealT (sealN l j) ⟨z, a, b, s⟩ := by simp [sealS, hf, sealT]
        have e1 : sealE z a = 0 := by simp [sealE, hf]
        have e2 : sealP ⟨[], [], sealN l j⟩ z a b s = ⟨[], [], addN (sealN l j) ⟨z, a, b, s⟩⟩ := by simp [sealP, hf]
        rw [e0, e1, e2] at hseal
        rw [hf, if_pos rfl] at HST
        have htz : (sealT (sealN l j) ⟨z, a, b, s⟩).size ≤ 616 := by
          have := sealT_tag (sealN l j) ⟨z, a, b, s⟩ (by omega)
          unfold sealT
          rw [ByteArray.size_append]
          show s.size + _ ≤ 616
          omega
        have hopen := fun W hW => vopen_any B (fun k => w0.heap.size ≤ k ∧ k < w1.heap.size) ⟨[], [], addN (sealN l j) ⟨z, a, b, s⟩⟩ z a b (sealT (sealN l j) ⟨z, a, b, s⟩) ⟨hfit.1, hfit.2.1, hfit.2.2.1, by show (sealT (sealN l j) ⟨z, a, b, s⟩).size ≤ _; omega⟩ (by have := addN_length (sealN l j) ⟨z, a, b, s⟩; show (addN (sealN l j) ⟨z, a, b, s⟩).length ≤ _; omega) W hW
        rw [o1, o2] at hopen
        generalize sealT (sealN l j) ⟨z, a, b, s⟩ = t at *
        clear e0 e1 e2 o1 o2 htz hfit
        go_wp2_with fail
        refine (hcc _).mono ?_
        rintro e wC ⟨rfl, rfl⟩
        clear hcc
        go_wp2_with fail
        refine hseal.mono ?_
        rintro e wA ⟨rfl, hpA, htA⟩
        clear hseal
        have rA := (htA.2 wr.heap.size (by omega) (fun h => by have := h.2; omega)).trans rX
        have hrA := (htA.2 w.heap.size (by omega) (fun h => by have := h.1; omega)).trans hrX
        have hTA := hTX.trans (htA.below (B := w.heap.size) hTX.size fun k h => by have := h.1; omega)
        have hzA : wr.heap.size + 1 ≤ wA.heap.size := by have := htA.size; omega
        clear hpX rX hrX hTX htA c0 c1 c2 c3 c4 c5
        have d1 : wA.cell? ⟨wr.heap.size, 1, none⟩ = some (.int .i64 z) := cell_of_row _ _ _ _ _ _ rA
        have d2 : wA.cell? ⟨wr.heap.size, 2, none⟩ = some (.string a) := cell_of_row _ _ _ _ _ _ rA
        have d3 : wA.cell? ⟨wr.heap.size, 3, none⟩ = some (.string b) := cell_of_row _ _ _ _ _ _ rA
        go_wp2_with fail
        refine (hopen _ hpA).mono ?_
        rintro e wB ⟨rfl, hbB⟩
        clear hopen d1 d2 d3
        have hpB := hpA.below hbB
        have rB := (hbB.block _ (lt_of_block rA)).trans rA
        have hrB := (hbB.block _ (lt_of_block hrA)).trans hrA
        have hTB := hTA.trans (hbB.mono hTA.size)
        have d1 : wB.cell? ⟨wr.heap.size, 1, none⟩ = some (.int .i64 z) := cell_of_row _ _ _ _ _ _ rB
        have d2 : wB.cell? ⟨wr.heap.size, 2, none⟩ = some (.string a) := cell_of_row _ _ _ _ _ _ rB
        have d3 : wB.cell? ⟨wr.heap.size, 3, none⟩ = some (.string b) := cell_of_row _ _ _ _ _ _ rB
        have q1 : wB.cell? ⟨w.heap.size, 1, none⟩ = some (.int .i64 qz) := cell_of_row _ _ _ _ _ _ hrB
        have q2 : wB.cell? ⟨w.heap.size, 2, none⟩ = some (.string qa) := cell_of_row _ _ _ _ _ _ hrB
        have q3 : wB.cell? ⟨w.heap.size, 3, none⟩ = some (.string qb) := cell_of_row _ _ _ _ _ _ hrB
        have HF : Hid (Ideal wB (fun k => w0.heap.size ≤ k ∧ k < w1.heap.size) B ⟨[], [], sealN l (j + 1)⟩ ∧ wB.heap[w.heap.size]? = some (.cells #[.int .i64 qk, .int .i64 qz, .string qa, .string qb, .string qc, .string qd] 33 (0, 0)) ∧ Below w.heap.size w wB ∧ w1.heap.size ≤ wB.heap.size) := ⟨by rw [HST.out]; exact hpB, hrB, hTB, by have := hbB.size; omega⟩
        have HQ : Hid (∀ X, X = askO (addN (sealN l j) ⟨z, a, b, s⟩) qz qa qb A → Value.bool X = .bool (askO (sealN l (j + 1)) qz qa qb A)) := fun X h => by rw [h, HST.out]
        generalize askO (addN (sealN l j) ⟨z, a, b, s⟩) qz qa qb A = X at *
        clear hpA rA hrA hTA hzA hpB rB hrB hTB hbB hsX HST
        cases hw : askO (sealN l j) qz qa qb A <;> rw [hw] at HKEY
        · by_cases e1 : z = qz
          · have m1 : (z == qz) = true := by simp [e1]
            by_cases e2 : a = qa
            · have m2 : (a.toList == qa.toList) = true := by simp [e2]
              by_cases e3 : b = qb
              · have m3 : (b.toList == qb.toList) = true := by simp [e3]
                have HR : Hid (X = (t.toList == A.toList)) := (show X = (t.toList == A.toList) from by rw [HKEY.out, beq_dec2]; simp [e1, e2, e3])
                clear HKEY e1 e2 e3
                go_wp2
                go_roundw
                case rel => exact ⟨j + 1, by omega, HQ.out _ HR.out.symm, by go_num, HF.out⟩
                case measure => simp [intOf]; omega
              · have HR : Hid (X = false) := (show X = false from by rw [HKEY.out]; simp [e3])
                have n3 := str_ne e3
                clear HKEY e1 e2
                go_wp2
                go_roundw
                case rel => exact ⟨j + 1, by omega, HQ.out _ HR.out.symm, by go_num, HF.out⟩
                case measure => simp [intOf]; omega
            · have HR : Hid (X = false) := (show X = false from by rw [HKEY.out]; simp [e2])
              have n2 := str_ne e2
              clear HKEY e1
              go_wp2
              go_roundw
              case rel => exact ⟨j + 1, by omega, HQ.out _ HR.out.symm, by go_num, HF.out⟩
              case measure => simp [intOf]; omega
          · have HR : Hid (X = false) := (show X = false from by rw [HKEY.out]; simp [e1])
            have n1 : (z == qz) = false := beq_false_of_ne e1
            clear HKEY
            go_wp2
            go_roundw
            case rel => exact ⟨j + 1, by omega, HQ.out _ HR.out.symm, by go_num, HF.out⟩
            case measure => simp [intOf]; omega
        · have HR : Hid (X = true) := (show X = true from by rw [HKEY.out]; simp)
          clear HKEY
          go_wp2
          go_roundw
          case rel => exact ⟨j + 1, by omega, HQ.out _ HR.out.symm, by go_num, HF.out⟩
          case measure => simp [intOf]; omega
      · obtain rfl : j = J := by omega
        have hlen := sealN_length l j
        have hopen := vopen_any B _ ⟨[], [], sealN l j⟩ qz qa qb A ⟨hqz, hqa, hqb, by show A.size ≤ _; omega⟩ (by show (sealN l j).length ≤ _; omega) wr hp
        have he := openE_iff (sealN l j) qz qa qb A
        have q1 : wr.cell? ⟨w.heap.size, 1, none⟩ = some (.int .i64 qz) := cell_of_row _ _ _ _ _ _ hr
        have q2 : wr.cell? ⟨w.heap.size, 2, none⟩ = some (.string qa) := cell_of_row _ _ _ _ _ _ hr
        have q3 : wr.cell? ⟨w.heap.size, 3, none⟩ = some (.string qb) := cell_of_row _ _ _ _ _ _ hr
        generalize askO (sealN l j) qz qa qb A = X at *
        generalize openE ⟨[], [], sealN l j⟩ qz qa qb A = E at *
        generalize openS ⟨[], [], sealN l j⟩ qz qa qb A = T at *
        have HT : Hid (Below w.heap.size w wr) := hT
        clear hp hT hr
        go_wp2_with fail
        refine hopen.mono ?_
        rintro e wA ⟨rfl, hbA⟩
        clear hopen
        have HTA : Hid (Below w.heap.size w wA) := HT.out.trans (hbA.mono HT.out.size)
        clear HT hbA q1 q2 q3
        have hxx : (X == X) = true := by simp
        go_wp2_with fail
        refine (awake_any _).mono ?_
        rintro e wz ⟨rfl, hk⟩
        have HF : Hid (Below w.heap.size w wz) := HTA.out.trans (hk.mono HTA.out.size)
        clear hk HTA
        go_wp2
        go_ret
        exact ⟨rfl, HF.out⟩
end Go.Proofs.Ytfmaajfohieneaa
